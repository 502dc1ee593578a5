/- The child brings a cell up to date, from its first receive to its second one. -/
import Derived.Test.YtdlnlcjmjgbikaaSb
namespace Go.Proofs.Ytdlnlcjmjgbikaa
open Go Go.Conc
open Go.ConcX (WgAt KK stA smA DC0 RCa KCa)

/-- The blocks that are left out, and the five of a call of serve. -/
def X5 (X : Nat → Prop) (N : Nat) (b : Nat) : Prop := X b ∨ (N ≤ b ∧ b < N + 5)
/-- Shunned places lie in blocks that are left out. -/
def ShX (Shun : Loc → Prop) (X : Nat → Prop) : Prop := ∀ l, Shun l → (∃ a : Addr, l = .cell a ∧ X a.block) ∨ ∃ r, l = .obj r ∧ X r
theorem ev_ec {Shun : Loc → Prop} {X : Nat → Prop} {N : Nat} (hS : ShX Shun X) {e : Event} (h : EvM (X5 X N) e) : EC Shun (BoxB N) N e := by
  obtain ⟨l, wr, sy⟩ := e
  have nb : ∀ {x : Touch}, ((∃ a : Addr, x.loc = .cell a ∧ ¬ X5 X N a.block) ∨ ∃ r, x.loc = .obj r ∧ ¬ X5 X N r) → ¬ BoxB N x.loc ∧ ¬ Grp N x.loc ∧ (Shun x.loc → x.kind ≠ .plain) := by
    intro x hx
    refine ⟨fun hb => ?_, fun hg => ?_, fun hs => ?_⟩
    · rcases hx with ⟨a, e, hn⟩ | ⟨r, e, hn⟩
      · rw [e] at hb
        injection hb with hb
        exact hn (.inr (by rw [hb]; exact ⟨by simp, by simp⟩))
      · rw [e] at hb; cases hb
    · rcases hx with ⟨a, e, hn⟩ | ⟨r, e, hn⟩
      · rw [e] at hg
        rcases hg with ⟨a', e', ha'⟩ | e'
        · cases e'; exact hn (.inr (by omega))
        · cases e'
      · rw [e] at hg
        rcases hg with ⟨a', e', _⟩ | e'
        · cases e'
        · cases e'; exact hn (.inr (by omega))
    · exfalso
      rcases hS _ hs with ⟨a, e, ha⟩ | ⟨r, e, hr⟩
      · rcases hx with ⟨a', e', hn⟩ | ⟨r, e', _⟩
        · rw [e] at e'; cases e'; exact hn (.inl ha)
        · rw [e] at e'; cases e'
      · rcases hx with ⟨a', e', _⟩ | ⟨r', e', hn⟩
        · rw [e] at e'; cases e'
        · rw [e] at e'; cases e'; exact hn (.inl hr)
  cases l with
  | cell a =>
    have hn : ¬ X5 X N a.block := by
      rcases h with h | h | h | ⟨_, _, h | h⟩ <;> first | exact h | cases h
    refine ⟨fun x hx => .inl (nb (.inl ⟨a, ?_, hn⟩)), by simp [MemAct.ofEvent]⟩
    cases hx; rfl
  | obj r =>
    have hn : ¬ X5 X N r := by
      rcases h with h | h | h | ⟨_, _, h | h⟩ <;> first | exact h | cases h
    cases wr <;> cases sy <;> refine ⟨fun x hx => .inl (nb (.inr ⟨r, ?_, hn⟩)), by simp [MemAct.ofEvent]⟩ <;> cases hx <;> rfl
  | mark m =>
    rcases h with h | h | h | ⟨a, ha, h | h⟩
    · cases m <;> first | exact (h : False).elim | exact ⟨fun x hx => (by cases hx), by simp [MemAct.ofEvent]⟩
    · cases h; exact ⟨fun x hx => (by cases hx), by simp [MemAct.ofEvent]⟩
    · cases h; exact ⟨fun x hx => (by cases hx), by simp [MemAct.ofEvent]⟩
    · cases h; exact ⟨fun x hx => (by cases hx), by simp [MemAct.ofEvent]⟩
    · cases h; exact ⟨fun x hx => (by cases hx), by simp [MemAct.ofEvent]⟩
  | _ => rcases h with h | h | h | ⟨_, _, h | h⟩ <;> first | exact (h : False).elim | cases h
noncomputable section
variable {Shun : Loc → Prop} {X : Nat → Prop} {N : Nat} {base cb : List Frame} {R : Frame → List Frame → World → Prop}
/-- What is known when bring has left. -/
def Zq (X : Nat → Prop) (N : Nat) (Zv : World → Prop) (w : World) : Prop := ∃ v', Rel (X5 X N) v' w ∧ Gd v' ∧ Zv v'
theorem rel_same {X : Nat → Prop} {v w w1 : World} (h : Rel X v w) (hs : w1.heap.size = w.heap.size) (hb : ∀ b, ¬ X b → w1.heap[b]? = w.heap[b]?) (ho : w1.os = w.os) (hp : w1.output = w.output) : Rel X v w1 :=
  ⟨h.size.trans hs.symm, fun r hr => (h.same r hr).trans (hb r hr).symm, h.pois, h.os.trans ho.symm, h.output.trans hp.symm⟩
theorem zq_zk (Zv : World → Prop) : Zk N (Zq X N Zv) where
  at_ := fun w d ⟨v', h, g, z⟩ => ⟨v', rel_same h rfl (fun _ _ => rfl) rfl rfl, g, z⟩
  grp := fun w b v hb i ⟨v', h, g, z⟩ => by
    subst hb
    obtain ⟨o, e, _⟩ := setCell_put w ⟨N + 3, i, none⟩ v
    refine ⟨v', rel_same h ?_ (fun j hj => setCell_other w (N + 3) i j v fun e => hj (.inr (by omega))) ?_ ?_, g, z⟩ <;> rw [e]
    simp
  asd := fun w w' ⟨v', h, g, z⟩ ha => ⟨v', rel_same h ha.size (fun j hj => ha.block j fun e => hj (.inr (by omega))) ha.os ha.output, g, z⟩
theorem zq_rc1 {Zv : World → Prop} {w w1 : World} (h : Zq X N Zv w) (r : RC1 N w w1) : Zq X N Zv w1 := by
  obtain ⟨v', h, g, z⟩ := h
  exact ⟨v', rel_same h r.size (fun j hj => r.same j (fun e => hj (.inr (by omega))) fun e => hj (.inr (by omega))) r.os r.output, g, z⟩
theorem rc1_rx {w w1 : World} (h : RC1 N w w1) : RX (X5 X N) w w1 ∧ w1.tape = w.tape :=
  ⟨⟨h.size, fun r hr => h.same r (fun e => hr (.inr (by omega))) fun e => hr (.inr (by omega)), h.os, h.output⟩, h.tape⟩
theorem dm_dc1 (hS : ShX Shun X) {w w1 : World} {es : Array Event} (h : DM (X5 X N) w w1 es) : Dc1 Shun N w w1 es :=
  ⟨fun b h1 h2 => h.1.keeps.2 b (.inr ⟨h1, h2⟩), fun e he => ev_ec hS (h.2 e he)⟩
theorem sx_free (hS : ShX Shun X) (hXN : ∀ r, X r → r < N) (a : Addr) (ha : N ≤ a.block) : ¬ Shun (.cell a) := by
  intro h
  rcases hS _ h with ⟨b, e, hb⟩ | ⟨r, e, _⟩
  · cases e
    have := hXN _ hb
    omega
  · cases e
/-- What lay in the input's left-out blocks lies there still. -/
def Kept (X0 : Nat → Prop) (W0 w : World) : Prop := ∀ r, X0 r → w.heap[r]? = W0.heap[r]?
def ZqK (X0 : Nat → Prop) (W0 : World) (X : Nat → Prop) (N : Nat) (Zv : World → Prop) (w : World) : Prop := Zq X N Zv w ∧ Kept X0 W0 w
variable {X0 : Nat → Prop} {W0 : World}
theorem Kept.step {w w1 : World} (h : Kept X0 W0 w) (hs : ∀ r, X0 r → w1.heap[r]? = w.heap[r]?) : Kept X0 W0 w1 := fun r hr => (hs r hr).trans (h r hr)
theorem Kept.rc1 (h0 : ∀ r, X0 r → X r) (hXN : ∀ r, X r → r < N) {w w1 : World} (h : Kept X0 W0 w) (r : RC1 N w w1) : Kept X0 W0 w1 :=
  h.step fun b hb => r.same b (by have := hXN _ (h0 b hb); omega) (by have := hXN _ (h0 b hb); omega)
theorem zqk_zk (h0 : ∀ r, X0 r → X r) (hXN : ∀ r, X r → r < N) (Zv : World → Prop) : Zk N (ZqK X0 W0 X N Zv) where
  at_ := fun w d h => ⟨(zq_zk Zv).at_ w d h.1, h.2⟩
  grp := fun w b v hb i h => ⟨(zq_zk Zv).grp w b v hb i h.1, h.2.step fun r hr => setCell_other w b i r v (by have := hXN _ (h0 r hr); omega)⟩
  asd := fun w w' h ha => ⟨(zq_zk Zv).asd w w' h.1 ha, h.2.step fun r hr => ha.block r (by have := hXN _ (h0 r hr); omega)⟩
/-- bring leaves. -/
theorem s1_pr (h0 : ∀ r, X0 r → X r) (hS : ShX Shun X) (hXN : ∀ r, X r → r < N) (hX : ∀ r, X5 X N r → Sq.prog.globals.size ≤ r) (hR : ∀ fr c v, R fr c v → c = [] ∧ fr.mode = .returning ∧ fr.defers = []) {sfr : Frame} {c0 : List Frame} (hO : Owns Sq.prog sts (sfr :: c0)) {rp : Addr} {kv : Value} {v5 w : World} {Zv : World → Prop}
    (hsa : Sanes (Frame.enter Sq.prog 46 #[.pointer (some rp), .int .i64 0, kv] .normal) (sfr :: c0)) (h : Ends Sq.prog base R (Frame.enter Sq.prog 46 #[.pointer (some rp), .int .i64 0, kv] .normal) (sfr :: c0) v5) (hw : Rel (X5 X N) v5 w) (hg : Gd v5)
    (hZ : ∀ x v', Pth Sq.prog base R (sfr.finish x) c0 v' (Frame.enter Sq.prog 46 #[.pointer (some rp), .int .i64 0, kv] .normal) (sfr :: c0) v5 → Ends Sq.prog base R (sfr.finish x) c0 v' → Gd v' → Zv v') (hr : w.cell? ⟨N, 0, none⟩ = some (.pointer (some rp))) (hi : w.heap[N + 4]? = some (.cells #[.int .i64 0] 3)) (hk0 : Kept X0 W0 w) {t7 t8 t9 t10 t11 t12 k4 : Value} :
    Pr Try.prog false (RC1 N) (Dc1 Shun N) (Stop1 N (ZqK X0 W0 X N Zv)) 0 (G ((baseK 44 .deferred).at (tW N k4 (.chan (some (N + 1))) (.tuple #[kv, .bool true]) t7 t8 t9 t10 t11 t12) (.inRegion opsR [1] :: kR)) [bornF]) w := by
  have self : ∀ w, RC1 N w w := fun w => by have := RC1.at (N := N) w w.drawn; rwa [at_self] at this
  have cell_of : ∀ w w1, RC1 N w w1 → w1.cell? ⟨N, 0, none⟩ = w.cell? ⟨N, 0, none⟩ := fun w w1 r => by unfold World.cell?; rw [r.same N (by omega) (by omega)]
  have lets : ∀ w es, (∀ e ∈ es, EC Shun (BoxB N) N e) → Dc1 Shun N w w es := fun w es he => ⟨fun _ _ _ => rfl, he⟩
  have HF : Wk (RC1 N) (Dc1 Shun N) (EC Shun (BoxB N) N) (fun w1 => RC1 N w w1) := ⟨fun a b h k => RC1.trans _ _ _ h k, lets⟩
  have ei : ∀ b : Nat, b = N ∨ b = N + 4 → EC Shun (BoxB N) N ⟨.cell ⟨b, 0, none⟩, false, false⟩ := by
    intro b hb
    refine ⟨fun x hx => .inl ?_, by simp [MemAct.ofEvent]⟩
    cases hx
    refine ⟨fun e => ?_, fun e => ?_, fun hs => ?_⟩
    · injection e with e; injection e with e1; omega
    · rcases e with ⟨a, e, ha⟩ | e
      · cases e; simp only at ha; omega
      · cases e
    · exact absurd hs (sx_free hS hXN _ (by simp only; omega))
  refine worker_b (rp := rp) (Stop := Stop1 N (ZqK X0 W0 X N Zv)) HF (fun w1 r => (cell_of _ _ r).trans hr) (fun w1 r => ?_) (ei N (.inl rfl)) (ei (N + 4) (.inr rfl)) (fun w1 r => ?_) w (self w)
  · unfold World.cell?
    rw [r.same (N + 4) (by omega) (by omega), hi]
    rfl
  have hrel : Rel (X5 X N) v5 w1 := hw.rx (rc1_rx (X := X) r).1
  have hi1 : w1.heap[N + 4]? = some (.cells #[.int .i64 0] 3) := (r.same (N + 4) (by omega) (by omega)).trans hi
  have hp := child_pr (Rw := RC1 N) (k := 0) (baseP := [(baseK 44 .deferred).at (tW N kv (.chan (some (N + 1))) (.tuple #[kv, .bool true]) (.bool true) kv (.pointer (some rp)) (.int .i64 0) kv t12) (.inRegion opsB [3] :: kB), bornF]) hX (fun _ _ h => rc1_rx h) (fun fr c v h => ⟨(hR fr c v h).1, (by rw [(hR fr c v h).2.1]; simp), (hR fr c v h).2.2⟩) (owns_round hO) hsa h hrel hg
  have hp := hp.keep (F := Kept X0 W0) (fun a b h k => h.rc1 h0 hXN k) (fun a b e h d => h.step fun r hr => d.1.keeps.2 r (.inl (h0 r hr))) (hk0.rc1 h0 hXN r)
  have hp := (hp.anti (R' := RC1 N) (D' := Dc1 Shun N) (fun _ _ r => r) fun _ _ _ h => dm_dc1 hS h).keep (F := fun w => w.heap[N + 4]? = some (.cells #[.int .i64 0] 3)) (fun a b h k => (k.same (N + 4) (by omega) (by omega)).trans h) (fun a b e h d => (d.same (N + 4) (by omega) (by omega)).trans h) hi1
  refine hp.then fun k a w2 hs => ?_
  obtain ⟨⟨hs0, hkk⟩, hi2⟩ := hs w2 (self w2)
  generalize ha : a = a' at hs0
  cases hs0 with
  | enters _ hf => exact hf.elim
  | @leaves fr fr' v w2 hk hfr hm hd hI hrel hgv hends =>
    subst hk
    obtain ⟨hst, hsan, hpth⟩ := hI
    obtain ⟨hkind, hfn⟩ : fr'.kind = .normal ∧ fr'.fn = 46 := by cases hst with | nil _ a b => exact ⟨a, b⟩
    -- it returns
    have hnr : notRun fr'.mode = true := by rw [hfr.mode]; cases h : fr.mode <;> first | rfl | exact absurd h hm
    have hret : fr'.mode = .returning := by
      refine Classical.byContradiction fun hne => ?_
      have hu : Un fr'.mode := (hsan fr' (by simp)).un hnr hne
      exact no_pan (fun fr c v h => ⟨(hR fr c v h).1, (hR fr c v h).2.1⟩) hends (frr_own hfr) hO hgv (by simpa using hsan) ⟨fr', by simp, hu⟩
    obtain ⟨fn, tmps, todo, defers, mode, kd, r⟩ := fr
    obtain ⟨fn', tmps', todo', defers', mode', kd', r'⟩ := fr'
    obtain ⟨h1, ⟨f, f', hf, hf', hres⟩, h3, h4, h5, h6, h7, h8, h9, h10, h11⟩ := hfr
    simp only at h1 h3 h4 h5 h6 h7 h8 h9 h10 h11 hkind hfn hret hm hd hf hf'
    subst h1 h3 h4 h6 h7 h9 h10 hkind hfn hret hd
    subst ha
    refine Pr.mk rfl fun w3 r3 => ?_
    have hrel3 : Rel (X5 X N) (re v w3.tape w3.drawn) w3 := (hrel.rx (rc1_rx (X := X) r3).1).re _ _
    obtain ⟨_, hg1, n, hon, hm⟩ := t_results (X := X5 X N) sq_kin hres tmps' (re v w3.tape w3.drawn) #[] (hgv.re _ _)
    cases hends with
    | stop h => exact absurd (hR _ _ _ h).1 (by simp)
    | step f0 l u e hl hstp hk =>
      have hq := hstp w3.tape w3.drawn
      cases hrun : (results f' tmps').runT Sq.prog (re v w3.tape w3.drawn) #[] with
      | mk rr es1 =>
        rw [hrun] at hon hm hg1
        cases rr with
        | halt hh v2 => exact (no_end hq (ended_results hf' hrun)).elim
        | ok x v2 =>
          obtain ⟨w4, e1, r4, o4, k4', u4⟩ := hm w3 hrel3 (fun j q hj => rfl)
          have hQ : stepG Sq.prog true (G ⟨46, tmps', todo', [], .returning, .normal, none⟩ ((sfr :: c0) ++ base)) (re v w3.tape w3.drawn) = .go (G (sfr.finish x) (c0 ++ base)) v2 (seen Sq.prog 46 es1) := by
            simp [G, stepG, unwind, doReturn, hf', hrun, GStep.after, -Sem.runT_eq]
          obtain ⟨q1, q2, q3⟩ := go_inj (hq.symm.trans hQ)
          have hP : stepG Try.prog false (G ⟨46, tmps', todo, [], .returning, .normal, none⟩ [(baseK 44 .deferred).at (tW N kv (.chan (some (N + 1))) (.tuple #[kv, .bool true]) (.bool true) kv (.pointer (some rp)) (.int .i64 0) kv t12) (.inRegion opsB [3] :: kB), bornF]) w3 =
              .go (G (((baseK 44 .deferred).at (tW N kv (.chan (some (N + 1))) (.tuple #[kv, .bool true]) (.bool true) kv (.pointer (some rp)) (.int .i64 0) kv t12) (.inRegion opsB [3] :: kB)).finish x) [bornF]) w4 (seen Try.prog 46 es1) := by
            simp [G, stepG, unwind, doReturn, hf, e1, GStep.after, -Sem.runT_eq]
          obtain ⟨t7', t8', t9', t10', t11', t12', t6', efin⟩ : ∃ t7' t8' t9' t10' t11' t12' t6', ((baseK 44 .deferred).at (tW N kv (.chan (some (N + 1))) (.tuple #[kv, .bool true]) (.bool true) kv (.pointer (some rp)) (.int .i64 0) kv t12) (.inRegion opsB [3] :: kB)).finish x = (baseK 44 .deferred).at (tW N kv (.chan (some (N + 1))) t6' t7' t8' t9' t10' t11' t12') (.inRegion opsB [] :: kB) := by
            rw [Frame.finish_at]
            exact ⟨_, _, _, _, _, _, _, rfl⟩
          have hd1 : Dc1 Shun N w3 w4 (seen Try.prog 46 es1) := dm_dc1 hS ⟨⟨k4', o4.1⟩, fun e he => .inl (evs_seen u4 46 e he)⟩
          refine ⟨_, w4, seen Try.prog 46 es1, hP, hd1, ?_⟩
          rw [deaf_ev (X := X5 X N) (evs_seen u4 46), efin]
          have hz : Zq X N Zv w4 := ⟨v2, r4, hg1, hZ x v2 (IM.next hpth (.one ⟨fun h => absurd (hR _ _ _ h).1 (by simp), w3.tape, w3.drawn, _, hQ⟩)) (by have := hk w3.tape w3.drawn; rw [q1, q2, q3] at this; exact this) hg1⟩
          have hc4 : w4.heap[N + 4]? = some (.cells #[.int .i64 0] 3) := (hd1.same (N + 4) (by omega) (by omega)).trans ((r3.same (N + 4) (by omega) (by omega)).trans hi2)
          refine worker_c (Rw := RC1 N) (D := Dc1 Shun N) (E := EC Shun (BoxB N) N) (F := fun w1 => RC1 N w4 w1) (Stop := Stop1 N (ZqK X0 W0 X N Zv)) ⟨fun a b h k => RC1.trans _ _ _ h k, lets⟩ (fun w5 r5 => .stop fun w6 r6 => ?_) w4 (self w4)
          exact ⟨rfl, ⟨zq_rc1 (zq_rc1 hz r5) r6, ((((hkk.rc1 h0 hXN r3).step fun r hr => k4'.2 r (.inl (h0 r hr))).rc1 h0 hXN r5).rc1 h0 hXN r6)⟩, (r6.same (N + 4) (by omega) (by omega)).trans ((r5.same (N + 4) (by omega) (by omega)).trans hc4), _, _, _, _, _, _, _, _, .inl rfl⟩
end
end Go.Proofs.Ytdlnlcjmjgbikaa
/- Goroutine 0 from the close to where Wait may register it. -/
namespace Go.Proofs.Ytdlnlcjmjgbikaa
open Go Go.Conc Go.RowKit Go.Conc.Lib Go.ConcX.Gen
open Go.ConcX (WgAt KK stA smA DC0)

noncomputable section
variable (P : Program) {N : Nat} {R : World → World → Prop} {b : Frame} {A : Act} {ops : Array Oper} {i : Nat} {rest : List Nat} {K : List Item} {cs : List Frame}
/-- At 'disable'. -/
def SDis (R : World → World → Prop) (N : Nat) (b : Frame) (A : Act) (ops : Array Oper) (i : Nat) (rest : List Nat) (K : List Item) (cs : List Frame) (g : Goroutine) (w : World) : Prop :=
  g.status = .running ∧ ∃ g', stepG P true g w = .go g' w #[⟨.mark .disable, false, true⟩] ∧ ∃ n, Goes P true R DC0 (fun g _ => AtHead N b A ops i rest K cs g) n g' w
variable {P}
set_option maxRecDepth 100000 in
set_option maxHeartbeats 8000000 in
/-- From the entry of Wait to 'disable', and to the head of the loop. -/
theorem wait_a (H : WgLib P lnk) (hR : ∀ w w1, R w w1 → WT N w w1) {w : World} (hF : F1 N w) :
    ∃ n, Goes P true R DC0 (SDis P R N b A ops i rest K cs) n (G ((base 47).at ⟨#[.pointer (some ⟨N + 3, 0, none⟩)] ++ Array.replicate 83 undef, []⟩ [.code (body_wait lnk)]) (b.at A (.inRegion ops (i :: rest) :: K) :: cs)) w := by
  have rl : ∀ {w w1 : World}, F1 N w → R w w1 → F1 N w1 := fun h r => h.step (hR _ _ r)
  refine ⟨60, ?_⟩
  obtain ⟨T, eT, hT84, t0⟩ : ∃ T : Array Value, #[Value.pointer (some ⟨N + 3, 0, none⟩)] ++ Array.replicate 83 undef = T ∧ T.size = 84 ∧ T[0]? = some (.pointer (some ⟨N + 3, 0, none⟩)) := ⟨_, rfl, by simp, by simp⟩
  rw [eT]
  obtain ⟨v0, v1, v2, v3, v4, v5, v6, v7, v8, v9, v10, v11, v12, v13, v14, v15, v16, v17, v18, v19, v20, v21, v22, v23, v24, v25, v26, v27, v28, v29, v30, v31, v32, v33, v34, v35, v36, v37, v38, v39, v40, v41, v42, v43, v44, v45, v46, v47, v48, v49, v50, v51, v52, v53, v54, v55, v56, v57, v58, v59, v60, v61, v62, v63, v64, v65, v66, v67, v68, v69, v70, v71, v72, v73, v74, v75, v76, v77, v78, v79, v80, v81, v82, v83, rfl⟩ := array84 T hT84
  clear eT
  simp only [List.getElem?_toArray, List.getElem?_cons_zero, Option.some.injEq] at t0
  subst t0
  simp only [body_wait, waitFn, Option.getD_some]
  lib_facts
  repeat (first | u_c stepG_seq rl hF | u_cond true rl hF | u_reg rl hF)
  refine Goes.stop (fun w₁ h₁ => ?_)
  replace hF := rl hF h₁
  clear h₁
  refine ⟨rfl, _, stepG_mark0 .disable (by simp) rfl rfl (by k_ne) rfl H.f_disable (x_disable_n lnk) (x_disable_b lnk) (x_disable_x lnk) (x_disable_f lnk), 60, ?_⟩
  walk_nrm
  u_c stepG_region_end rl hF
  u_c stepG_block rl hF
  u_c stepG_loop rl hF
  exact Goes.stop (fun _ _ => ⟨_, rfl, by simp, by simp⟩)
theorem RG.self (w : World) : RG N w w := ⟨rfl, rfl, fun st sm h => ⟨st, sm, h, .inl rfl⟩⟩
theorem zero_step {w w1 : World} (h : WgAt 103 (N + 3) w 0 0 ∨ WgAt 103 (N + 3) w 0 1) (r : WT N w w1) : WgAt 103 (N + 3) w1 0 0 ∨ WgAt 103 (N + 3) w1 0 1 := by
  have k1 : (KK : Int) = 4294967296 := rfl
  have key : ∀ sm, (sm = 0 ∨ sm = 1) → WgAt 103 (N + 3) w 0 sm → WgAt 103 (N + 3) w1 0 0 ∨ WgAt 103 (N + 3) w1 0 1 := by
    intro sm hx hw
    obtain ⟨st', sm', h1, h2⟩ := r 0 sm hw
    unfold Wle at h2
    simp only [Prod.mk.injEq, k1] at h2 hx
    have : st' = 0 ∧ (sm' = 0 ∨ sm' = 1) := by omega
    rcases this with ⟨rfl, rfl | rfl⟩
    · exact .inl h1
    · exact .inr h1
  exact h.elim (key 0 (.inl rfl)) (key 1 (.inr rfl))
/-- Goroutine 0 behind the close, to where it may be registered, or to 'enable'. -/
theorem g0_pr {f : Nat → Value} (hs : Sl A f) (hc : f 7 = .pointer (some ⟨N + 3, 0, none⟩)) (hk : b.kind ≠ .early) {w : World} (hF : F1 N w) :
    Pr Try.prog true (RG N) (D0w N) (Sg1 Try.prog N b A ops15 0 [] [] cs) 0 (G (b.at A (.inRegion ops14 [] :: k14)) cs) w := by
  have HF : Wk (RG N) (D0w N) (E0 (BoxB N) N) (F1 N) := ⟨fun _ _ h r => h.step r.2.2, fun _ _ he => ⟨rfl, he⟩⟩
  have keep1 : ∀ a b : World, F1 N a → RG N a b → F1 N b := fun _ _ h r => h.step r.2.2
  have keep2 : ∀ a b e, F1 N a → D0w N a b e → F1 N b := fun _ _ _ h d => by rw [d.1]; exact h
  refine close_to_wait HF hs hc hk (fun w hF => ?_) w hF
  rw [wait_enter]
  obtain ⟨n, hg⟩ := wait_a (R := RG N) (b := b) (A := A) (ops := ops15) (i := 0) (rest := []) (K := []) (cs := cs) wgLib (fun _ _ r => r.2.2) hF
  refine ((goes_pr (R' := RG N) (D' := D0w N) (fun _ _ r => r) dc0_d0 (k := 0) hg).keep keep1 keep2 hF).then fun k a w hs => ?_
  obtain ⟨⟨rfl, hr, _⟩, _⟩ := hs w (RG.self w)
  refine Pr.mk hr fun w1 r1 => ?_
  obtain ⟨⟨_, _, a', hst, m, hgo⟩, hF1⟩ := hs w1 r1
  refine ⟨a', w1, _, hst, ⟨rfl, e0_mark (m := .disable) rfl (by simp)⟩, ?_⟩
  rw [show deafBehind 0 #[⟨.mark .disable, false, true⟩] = 1 from rfl]
  refine ((goes_pr (R' := RG N) (D' := D0w N) (fun _ _ r => r) dc0_d0 (k := 1) hgo).keep keep1 keep2 hF1).then fun k a w hs => ?_
  obtain ⟨⟨rfl, hh⟩, hF2⟩ := hs w (RG.self w)
  obtain ⟨n1, hgo1⟩ := head_load (R := RG N) wgLib (fun _ _ r => r.2.2) hh hF2
  refine ((goes_pr (R' := RG N) (D' := D0w N) (fun _ _ r => r) dc0_d0 (k := 1) hgo1).keep keep1 keep2 hF2).then fun k a w hs => ?_
  obtain ⟨⟨rfl, hr, _⟩, _⟩ := hs w (RG.self w)
  refine Pr.mk hr fun w1 r1 => ?_
  obtain ⟨⟨_, _, hK, h0⟩, hF3⟩ := hs w1 r1
  have zero : ∀ sm, WgAt 103 (N + 3) w1 0 sm → (WgAt 103 (N + 3) w1 0 0 ∨ WgAt 103 (N + 3) w1 0 1) → ∃ g w2 es, stepG Try.prog true a w1 = .go g w2 es ∧ D0w N w1 w2 es ∧ Pr Try.prog true (RG N) (D0w N) (Sg1 Try.prog N b A ops15 0 [] [] cs) (deafBehind 1 es) g w2 := by
    intro sm hw hz
    obtain ⟨a', hst, m, hgo⟩ := h0 sm hw
    refine ⟨a', w1, _, hst, ⟨rfl, e0_rd⟩, ?_⟩
    rw [show deafBehind 1 #[⟨.cell (stA (N + 3)), false, true⟩] = 1 from rfl]
    have hp := (goes_pr (R' := RG N) (D' := D0w N) (fun _ _ r => r.2.2) dc0_d0 (k := 1) hgo).keep (F := fun w => WgAt 103 (N + 3) w 0 0 ∨ WgAt 103 (N + 3) w 0 1) (fun _ _ h r => zero_step h r.2.2) (fun _ _ _ h d => by rw [d.1]; exact h) hz
    exact hp.then fun k a w hs => .stop fun w2 r2 => ⟨(hs w2 r2).1.1, .inr ⟨(hs w2 r2).1.2, (hs w2 r2).2⟩⟩
  rcases hF3 with hw | hw | hw
  · obtain ⟨a', hst, m, hgo⟩ := hK hw
    refine ⟨a', w1, _, hst, ⟨rfl, e0_rd⟩, ?_⟩
    rw [show deafBehind 1 #[⟨.cell (stA (N + 3)), false, true⟩] = 1 from rfl]
    exact (goes_pr (R' := RG N) (D' := D0w N) (fun _ _ r => r) dc0_d0 (k := 1) hgo).then fun k a w hs => .stop fun w2 r2 => ⟨(hs w2 r2).1, .inl (hs w2 r2).2⟩
  · exact zero 0 hw (.inl hw)
  · exact zero 1 hw (.inr hw)
end
end Go.Proofs.Ytdlnlcjmjgbikaa
