/- The child's way, whatever goroutine 0 does meanwhile. -/
import Derived.Test.YtdlnlcjmjgbikaaRz
namespace Go.Proofs.Ytdlnlcjmjgbikaa
open Go Go.Conc
open Go.ConcN (sumTo upd upd_ne upd_same)
open Go.ConcX (WgAt KK stA smA DC0 AtD4 AtD3 AtD2 AtD1 AtK1 AtR0 RCa RCd KCa)

section
variable {P : Program} {Q : Machine → Outcome → World → Trace → Prop} {Shun : Loc → Prop} {N c p n : Nat} {Z : World → Prop}
variable {bf : Frame} {A : Act} {ops : Array Oper} {i : Nat} {rest : List Nat} {K : List Item} {cs : List Frame}
/-- Goroutine 0 is not yet registered. -/
def Gons (P : Program) (Q : Machine → Outcome → World → Trace → Prop) (N c n : Nat) (bf : Frame) (A : Act) (ops : Array Oper) (i : Nat) (rest : List Nat) (K : List Item) (cs : List Frame) (T : Nat → Nat → Trace → Prop) (I : World → Prop) (kc : Nat) (b : Goroutine) (w : World) : Prop :=
  ∀ k a gs sl t q, Pr P true (RG N) (D0w N) (Sg1 P N bf A ops i rest K cs) k a w → I w → gs.size = n → gs[0]? = some a → gs[c]? = some b → Lv P c t gs q → T k kc t → Wd P Q (crowd gs w sl) t
variable {T : Nat → Nat → Trace → Prop} {Rc : World → World → Prop} {Dc : World → World → Array Event → Prop} {Stopc : Nat → Goroutine → World → Prop} {Ig Ir : World → Prop}
/-- Registered: on to sleep. -/
theorem reg_pr {g1 : Goroutine} {m : Nat} {a : Goroutine} {w : World} (h : Goes P true (RG N) DC0 (SWr P (RG N) N g1) m a w) : Pr P true (RG N) (D0w N) (Sg2 P N g1) 1 a w := by
  refine (goes_pr (R' := RG N) (D' := D0w N) (fun _ _ r => r) dc0_d0 (k := 1) h).then fun k a w hs => ?_
  obtain ⟨rfl, hr, _⟩ := hs w (.refl w)
  refine Pr.mk hr fun w1 h1 => ?_
  obtain ⟨_, _, a', hst, m, hg⟩ := hs w1 h1
  refine ⟨a', w1, _, hst, ⟨rfl, fun e he => ?_⟩, ?_⟩
  · rw [Array.mem_singleton] at he
    subst he
    refine ⟨fun x hx => ?_, by simp [MemAct.ofEvent]⟩
    cases hx
    exact .inr ⟨.inl ⟨_, rfl, rfl⟩, by simp⟩
  · rw [show deafBehind 1 #[⟨.mark (.write (smA (N + 3))), false, true⟩] = 1 from rfl]
    exact goes_pr (R' := RG N) (D' := D0w N) (fun _ _ r => r) dc0_d0 (k := 1) hg
theorem seg_gons (H : Seg N c T Rc Dc Stopc Ig) (hI : ∀ w, Ig w → WgAt 103 (N + 3) w KK 0) (hset : ∀ w, Ig w → Ir (w.setCell (stA (N + 3)) (.int .u64 (KK + 1))) ∧ Rc w (w.setCell (stA (N + 3)) (.int .u64 (KK + 1))))
    (hreg : ∀ kc b w, Pr P false Rc Dc Stopc kc b w → Regs P Q N c n (back bf A ops i rest K cs) T Ir kc b w)
    (hc : ∀ k kc gs a b w sl t q, Pr P true (RG N) (D0w N) (Sg1 P N bf A ops i rest K cs) k a w → Ig w → gs.size = n → gs[0]? = some a → gs[c]? = some b → (∀ w1, Rc w w1 → Stopc kc b w1) → Lv P c t gs q → T k kc t → ∃ m' ops, runT P (crowd gs w sl) c = (.next m', ops) ∧ Wd P Q m' (t ++ ops))
    {kc : Nat} {b : Goroutine} {w : World} (hb : Pr P false Rc Dc Stopc kc b w) : Gons P Q N c n bf A ops i rest K cs T Ig kc b w := by
  intro k a gs sl t q ha hw hn h0 hgc hL hT
  have selfc : ∀ w, Rc w w := fun w => by have := H.at_ w w.drawn; rwa [at_self] at this
  have D : Duo2 P c T Ig (RG N) Rc (D0w N) Dc (Sg1 P N bf A ops i rest K cs) Stopc :=
    ⟨H.pos, fun w d => .at w d, H.at_, fun _ _ _ h k => h.trans k, H.trans, fun w w' es h => by rw [h.1]; exact selfc w, H.lets, fun k kc t w w' es fn pos h d => H.t0 _ _ _ _ _ _ h d.2, H.tc, H.ts, fun k a w h => .inl h.run, fun k a w h => .inl (H.stc _ _ _ h), fun k a w k' b h _ => .inl h.run,
      H.iat, fun w w' es h d => by rw [d.1]; exact h, H.ic⟩
  refine duo2_fin (n := n) D (fun k kc gs a b w sl t q hw hn h0 hgc hs har hb hL hT => ?_) (fun k kc gs a b w sl t q hw hn h0 hgc hs _ ha hL hT => hc k kc gs a b w sl t q ha hw hn h0 hgc hs hL hT) ha w (.refl w) hw kc b hb gs sl t q hn h0 hgc hL hT
  have hwg := hI w hw
  obtain ⟨rfl, hs1⟩ := hs w (.refl w)
  rcases hs1 with ⟨_, hhit, _⟩ | ⟨_, h0w⟩
  rotate_left
  · exfalso
    have kk : (KK : Int) ≠ 0 := by decide
    rcases h0w with h | h
    · exact kk (hwg.unique h).1
    · exact kk (hwg.unique h).1
  obtain ⟨a', hst, m, hg⟩ := hhit hwg
  obtain ⟨hir, hrc⟩ := hset w hw
  refine step0 hn h0 hst hL (Array.getElem?_eq_some_iff.1 hgc).1 fun gs' hn' h0' hoth hL' => ?_
  have hT' := H.t0 _ _ _ #[⟨.cell (stA (N + 3)), false, true⟩, ⟨.cell (stA (N + 3)), true, true⟩] a.frame.fn a.frame.place hT (by
    intro e he
    simp only [List.mem_toArray, List.mem_cons, List.not_mem_nil, or_false] at he
    rcases he with rfl | rfl <;> exact e0_atom rfl)
  rw [show deafBehind 1 #[⟨.cell (stA (N + 3)), false, true⟩, ⟨.cell (stA (N + 3)), true, true⟩] = 1 from rfl] at hT'
  have hb' := hb.rely H.trans hrc
  have hcc := hoth c b H.pos hgc
  rw [hb.woken_eq H.at_ (fun k a w h => .inl (H.stc _ _ _ h)) hrc] at hcc
  exact hreg kc b _ hb' 1 a' gs' sl _ q (reg_pr hg) hir hn' h0' hcc hL' hT'
/-- What is asked of both Z and the group. -/
def Iz (N : Nat) (Z : World → Prop) (st : Int) (w : World) : Prop := Z w ∧ WgAt 103 (N + 3) w st 0

/-! ### from the release to the count down -/
def Dc3 (w w' : World) (es : Array Event) : Prop := w' = w ∧ (es = #[] ∨ es = #[⟨.mark .disable, false, true⟩])
def Stop3 (P : Program) (N : Nat) (kc : Nat) (b : Goroutine) (w : World) : Prop := kc = 1 ∧ AtD1 P 103 (N + 3) (N + 5) b w
theorem rca_at (w : World) (d : Nat) : RCa 103 (N + 3) (N + 5) w (w.at d) := ⟨fun _ _ _ => rfl, fun h => h⟩
theorem rca_trans (a b c : World) (h : RCa 103 (N + 3) (N + 5) a b) (k : RCa 103 (N + 3) (N + 5) b c) : RCa 103 (N + 3) (N + 5) a c := ⟨fun j h1 h2 => (k.low j h1 h2).trans (h.low j h1 h2), fun x => k.k (h.k x)⟩
theorem rca_set {w : World} (h : WgAt 103 (N + 3) w KK 0) : RCa 103 (N + 3) (N + 5) w (w.setCell (stA (N + 3)) (.int .u64 (KK + 1))) :=
  ⟨fun j _ h2 => setCell_other w (N + 3) 0 j _ h2, fun _ => .inr (h.setSt _)⟩
theorem seg3 (F : Far Shun (BoxB N) (Grp N)) (hc : c ≠ 0) (hZ : Zk N Z) (st : Int) : Seg N c (T3 Shun (BoxB N) N c p) (RCa 103 (N + 3) (N + 5)) Dc3 (Stop3 P N) (Iz N Z st) where
  pos := hc
  at_ := rca_at
  trans := rca_trans
  lets := fun _ _ _ h => by rw [h.1]; exact .refl _
  t0 := fun k kc t es fn pos h he => h.own0 F hc he
  tc := fun k kc t w w' es fn pos h hd => by
    refine h.muteC F hc ?_
    rcases hd.2 with rfl | rfl
    · simp
    · simp [MemAct.ofEvent, MemAct.touch?]
  ts := fun k kc t ops h hs => h.slip hs
  stc := fun k b w h => h.2.1
  iat := fun w d h => ⟨hZ.at_ _ _ h.1, h.2⟩
  ic := fun w w' es h hd => by rw [hd.1]; exact h
theorem c3_pr {m : Nat} {b : Goroutine} {w : World} (h : Goes P false (RCa 103 (N + 3) (N + 5)) DC0 (AtK1 P 103 (N + 3) (N + 5)) m b w) : Pr P false (RCa 103 (N + 3) (N + 5)) Dc3 (Stop3 P N) 0 b w := by
  have hd : ∀ a b e, DC0 a b e → Dc3 a b e ∧ ∀ k, deafBehind k e = k := fun a b e h => by obtain ⟨rfl, rfl⟩ := h; exact ⟨⟨rfl, .inl rfl⟩, fun _ => rfl⟩
  refine (goes_pr (R' := RCa 103 (N + 3) (N + 5)) (D' := Dc3) (fun _ _ r => r) hd (k := 0) h).then fun k b w hs => ?_
  have self : ∀ w, RCa 103 (N + 3) (N + 5) w w := fun w => by have := rca_at (N := N) w w.drawn; rwa [at_self] at this
  obtain ⟨rfl, hr, _⟩ := hs w (self w)
  refine Pr.mk hr fun w1 h1 => ?_
  obtain ⟨_, _, b', hst, m, hg⟩ := hs w1 h1
  refine ⟨b', w1, _, hst, ⟨rfl, .inr rfl⟩, ?_⟩
  rw [show deafBehind 0 #[Go.ConcX.mk .disable] = 1 from rfl]
  exact goes_pr (R' := RCa 103 (N + 3) (N + 5)) (D' := Dc3) (fun _ _ r => r) hd (k := 1) hg
/-- The child counts down. -/
theorem down_step (F : Far Shun (BoxB N) (Grp N)) (hc : c ≠ 0) (hZ : Zk N Z) {gs : Array Goroutine} {b b' : Goroutine} {w : World} {v : Int} {sl : Option (Nat × Nat)} {t : Trace} {q : Nat → Nat} {k : Nat} (hn : gs.size = n) (hgc : gs[c]? = some b)
    (hst : stepG P false b w = .go b' (w.setCell (stA (N + 3)) (.int .u64 v)) #[⟨.cell (stA (N + 3)), false, true⟩, ⟨.cell (stA (N + 3)), true, true⟩]) (hz : Z w) (hL : Lv P c t gs q) (hT : T3 Shun (BoxB N) N c p k 1 t)
    (h : ∀ gs' t', gs'.size = n → (∀ x, gs[0]? = some x → gs'[0]? = some (woken P b b' (w.setCell (stA (N + 3)) (.int .u64 v)) x)) → gs'[c]? = some b' → Lv P c t' gs' q → T3 Shun (BoxB N) N c p k 1 t' → Z (w.setCell (stA (N + 3)) (.int .u64 v)) → Wd P Q (crowd gs' (w.setCell (stA (N + 3)) (.int .u64 v)) sl) t') :
    ∃ m' ops, runT P (crowd gs w sl) c = (.next m', ops) ∧ Wd P Q m' (t ++ ops) := by
  have cne : (c == 0) = false := by simpa using hc
  obtain ⟨gs', r1, r2, r3, r4, r5⟩ := crowd_act (i := c) (c := c) (sl := sl) hgc (.inr rfl) (by rw [cne]; exact hst) hL (Array.getElem?_eq_some_iff.1 hgc).1
  have hT' := hT.deafC (fn := b.frame.fn) (pos := b.frame.place) (kc := 0) F hc (a := stA (N + 3)) (y := false) rfl (some true) rfl
  exact ⟨_, _, r1, h gs' _ (r2.trans hn) (fun x hx => r4 0 x (Ne.symm hc) hx) r3 r5 hT' (hZ.grp w (N + 3) _ rfl 0 hz)⟩
/-- What is known of a piece of the child's way. -/
structure Part (P : Program) (Q : Machine → Outcome → World → Trace → Prop) (N c n : Nat) (bf : Frame) (A : Act) (ops : Array Oper) (i : Nat) (rest : List Nat) (K : List Item) (cs : List Frame) (T : Nat → Nat → Trace → Prop) (Ig Ir : World → Prop) (kc : Nat) (b : Goroutine) (w : World) : Prop where
  gons : Gons P Q N c n bf A ops i rest K cs T Ig kc b w
  regs : Regs P Q N c n (back bf A ops i rest K cs) T Ir kc b w
  naps : Naps P Q N c n (back bf A ops i rest K cs) T Ir kc b w
theorem part3 (H : Go.Conc.Lib.WgLib P lnk) (F : Far Shun (BoxB N) (Grp N)) (hc : c ≠ 0) (hZ : Zk N Z) (hE : EndsWell P Q Shun N n (back bf A ops i rest K cs) Z) {kc : Nat} {b : Goroutine} {w : World} (hb : Pr P false (RCa 103 (N + 3) (N + 5)) Dc3 (Stop3 P N) kc b w) :
    Part P Q N c n bf A ops i rest K cs (T3 Shun (BoxB N) N c p) (Iz N Z KK) (Iz N Z (KK + 1)) kc b w := by
  have self : ∀ w, RCa 103 (N + 3) (N + 5) w w := fun w => by have := rca_at (N := N) w w.drawn; rwa [at_self] at this
  have wr : ∀ {w : World}, WgAt 103 (N + 3) w (KK + 1) 0 → RG N w (w.setCell (stA (N + 3)) (.int .u64 1)) := fun hw => set_rg (wt_of hw (hw.setSt 1) (.inr (.inr (.inl ⟨rfl, .inl rfl⟩))))
  have nap : ∀ kc b w, Pr P false (RCa 103 (N + 3) (N + 5)) Dc3 (Stop3 P N) kc b w → Naps P Q N c n (back bf A ops i rest K cs) (T3 Shun (BoxB N) N c p) (Iz N Z (KK + 1)) kc b w := by
    intro kc b w hb
    refine seg_naps (seg3 F hc hZ _) (fun w h => ⟨_, h.2⟩) (fun kc gs a x b w sl t q har hao hS hw hn h0 hx hgc hs hL hT => ?_) hb
    obtain ⟨rfl, _, _, hd1⟩ := hs w (self w)
    obtain ⟨b', hst, m, hg⟩ := hd1 hw.2
    refine down_step F hc hZ hn hgc hst hw.1 hL hT fun gs' t' hn' h0' hcc hL' hT' hz' => ?_
    have hg4 : WgAt 103 (N + 3) (w.setCell (stA (N + 3)) (.int .u64 1)) 1 0 := hw.2.setSt 1
    exact (part4 F hc hZ hE (c4_pr hg hg4)).1 a _ gs' sl t' q har hao (fun w1 h1 => hS w1 ((wr hw.2).trans h1)) ⟨hz', .inl hg4⟩ hn' (h0' x h0) (hx.woken har hao _ _ _) hcc hL' ⟨rfl, hT'⟩
  have reg : ∀ kc b w, Pr P false (RCa 103 (N + 3) (N + 5)) Dc3 (Stop3 P N) kc b w → Regs P Q N c n (back bf A ops i rest K cs) (T3 Shun (BoxB N) N c p) (Iz N Z (KK + 1)) kc b w := by
    intro kc b w hb
    refine seg_regs (seg3 F hc hZ _) (fun w h => ⟨_, h.2⟩) nap (fun k kc gs a b w sl t q ha hw hn h0 hgc hs hL hT => ?_) hb
    obtain ⟨rfl, _, _, hd1⟩ := hs w (self w)
    obtain ⟨b', hst, m, hg⟩ := hd1 hw.2
    refine down_step F hc hZ hn hgc hst hw.1 hL hT fun gs' t' hn' h0' hcc hL' hT' hz' => ?_
    have hg4 : WgAt 103 (N + 3) (w.setCell (stA (N + 3)) (.int .u64 1)) 1 0 := hw.2.setSt 1
    have h0a := h0' a h0
    rw [ha.woken_eq (fun w d => .at w d) (fun k a w h => .inl h.2.1) (wr hw.2)] at h0a
    exact (part4 F hc hZ hE (c4_pr hg hg4)).2 k a gs' sl t' q (ha.rely (fun _ _ _ h k => h.trans k) (wr hw.2)) ⟨hz', .inl hg4⟩ hn' h0a hcc hL' ⟨rfl, hT'⟩
  refine ⟨seg_gons (seg3 F hc hZ _) (fun w h => h.2) (fun w h => ⟨⟨hZ.grp w (N + 3) _ rfl 0 h.1, h.2.setSt _⟩, rca_set h.2⟩) reg (fun k kc gs a b w sl t q ha hw hn h0 hgc hs hL hT => ?_) hb, reg kc b w hb, nap kc b w hb⟩
  obtain ⟨rfl, _, hd1, _⟩ := hs w (self w)
  obtain ⟨b', hst, m, hq⟩ := hd1 hw.2
  refine down_step F hc hZ hn hgc hst hw.1 hL hT fun gs' t' hn' h0' hcc hL' hT' hz' => ?_
  have hg0 : WgAt 103 (N + 3) (w.setCell (stA (N + 3)) (.int .u64 0)) 0 0 := hw.2.setSt 0
  have hrg : RG N w (w.setCell (stA (N + 3)) (.int .u64 0)) := set_rg (wt_of hw.2 hg0 (.inr (.inl ⟨rfl, .inl rfl⟩)))
  have h0a := h0' a h0
  rw [ha.woken_eq (fun w d => .at w d) (fun k a w h => .inl h.run) hrg] at h0a
  exact fin_g1 H F hc hZ hE ((ha.rely (fun _ _ _ h k => h.trans k) hrg).anti (fun _ _ r => rg_at _ _ r) fun _ _ _ h => h) hz' hg0 gs' sl t' _ hn' h0a (hL'.child hc hcc (m := m) (by rw [hT'.t1.kc]; exact hq)) ⟨1, hT'⟩
end
end Go.Proofs.Ytdlnlcjmjgbikaa
/- The child's way from bring to its release. -/
namespace Go.Proofs.Ytdlnlcjmjgbikaa
open Go Go.Conc
open Go.ConcN (sumTo upd upd_ne upd_same)
open Go.ConcX (WgAt KK stA smA DC0 AtD4 AtD3 AtD2 AtD1 AtK1 AtR0 RCa RCd KCa)

noncomputable section
variable {Q : Machine → Outcome → World → Trace → Prop} {Shun : Loc → Prop} {N c p n : Nat} {Z : World → Prop}
variable {bf : Frame} {A : Act} {ops : Array Oper} {i : Nat} {rest : List Nat} {K : List Item} {cs : List Frame}
/-! ### from the end of the loop to the release -/
def Stop2 (N : Nat) (kc : Nat) (b : Goroutine) (w : World) : Prop := kc = 0 ∧ @AtR0 pay Try.prog 103 (N + 3) (N + 4) (N + 5) [.int .i64 0] b w
theorem seg2 (F : Far Shun (BoxB N) (Grp N)) (hc : c ≠ 0) (hZ : Zk N Z) (st : Int) : Seg N c (T1 Shun (BoxB N) N c p) (RCa 103 (N + 3) (N + 5)) (Dd Shun (BoxB N) N) (Stop2 N) (Iz N Z st) where
  pos := hc
  at_ := rca_at
  trans := rca_trans
  lets := fun w w' _ h => ⟨h.1.block _ (by omega), h.1.block _ (by omega), fun st sm hw => ⟨st, sm, (h.1.block (N + 3) (by omega)).trans hw, .inl rfl⟩⟩
  t0 := fun k kc t es fn pos h he => h.own0 F hc he
  tc := fun k kc t w w' es fn pos h hd => h.ownC F hc hd.2
  ts := fun k kc t ops h hs => h.slip hs
  stc := fun k b w h => h.2.1
  iat := fun w d h => ⟨hZ.at_ _ _ h.1, h.2⟩
  ic := fun w w' es h hd => ⟨hZ.asd _ _ h.1 hd.1, (hd.1.block (N + 3) (by omega)).trans h.2⟩
theorem far_c (F : Far Shun (BoxB N) (Grp N)) (hS : ∀ a : Addr, N ≤ a.block → ¬ Shun (.cell a)) (a : Addr) (ha : a.block = N + 4) : ¬ Shun (.cell a) ∧ ¬ BoxB N (.cell a) := by
  have _ := F
  refine ⟨hS a (by omega), fun e => ?_⟩
  injection e with e
  rw [e] at ha
  simp at ha
theorem c2_pr (F : Far Shun (BoxB N) (Grp N)) (hS : ∀ a : Addr, N ≤ a.block → ¬ Shun (.cell a)) {kv z t7 t8 t9 t10 t11 t12 : Value} {w : World} (hK : KCa 103 (N + 3) w) (h4 : w.heap[N + 4]? = some (.cells #[.int .i64 0] 3)) :
    Pr Try.prog false (RCa 103 (N + 3) (N + 5)) (Dd Shun (BoxB N) N) (Stop2 N) 0 (G ((baseK 44 .deferred).at (tW N kv (.chan (some (N + 1))) (.tuple #[z, .bool false]) t7 t8 t9 t10 t11 t12) (.inRegion opsR [1] :: kR)) [bornF]) w := by
  have H : Wk (RCa 103 (N + 3) (N + 5)) (Dd Shun (BoxB N) N) (EC Shun (BoxB N) N) (fun w => KCa 103 (N + 3) w ∧ w.heap[N + 4]? = some (.cells #[.int .i64 0] 3)) :=
    ⟨fun w w1 h r => ⟨r.k h.1, (r.low (N + 4) (by omega) (by omega)).trans h.2⟩, fun w es he => ⟨.refl _ _, he⟩⟩
  refine worker_d (Stop := Stop2 N) H (fun w hw => ?_) w ⟨hK, h4⟩
  exact worker_done (far_c F hS) rfl (fun _ _ r => r) (fun w1 r => ⟨r.k hw.1, (r.low (N + 4) (by omega) (by omega)).trans hw.2⟩)
/-- The release. -/
theorem t1_rel (F : Far Shun (BoxB N) (Grp N)) (hc : c ≠ 0) {k : Nat} {t : Trace} {fn : FuncId} {pos : String} (h : T1 Shun (BoxB N) N c p k 0 t) : T3 Shun (BoxB N) N c p k 0 (t ++ MemOp.ofEvents c fn pos #[⟨.mark (.releaseMerge (stA (N + 3))), false, true⟩]) := by
  have e : MemOp.ofEvents c fn pos #[⟨.mark (.releaseMerge (stA (N + 3))), false, true⟩] = #[⟨c, fn, pos, .mark (.releaseMerge (stA (N + 3)))⟩] := by rw [ofEvents_eq]; simp [MemAct.ofEvent]
  have h1 := h.ownC (fn := fn) (pos := pos) F hc (es := #[⟨.mark (.releaseMerge (stA (N + 3))), false, true⟩]) (by
    intro e he
    rw [Array.mem_singleton] at he
    subst he
    exact ⟨fun x hx => (by cases hx), by simp [MemAct.ofEvent]⟩)
  rw [show deafBehind 0 #[⟨.mark (.releaseMerge (stA (N + 3))), false, true⟩] = 0 from rfl] at h1
  have hi : (t ++ MemOp.ofEvents c fn pos #[⟨.mark (.releaseMerge (stA (N + 3))), false, true⟩])[t.size]? = some ⟨c, fn, pos, .mark (.releaseMerge (stA (N + 3)))⟩ := by
    rw [e, Array.getElem?_append_right (Nat.le_refl _)]; simp
  have hs : (t ++ MemOp.ofEvents c fn pos #[⟨.mark (.releaseMerge (stA (N + 3))), false, true⟩]).size = t.size + 1 := by rw [e]; simp
  refine ⟨h1, t.size, ⟨by rw [act?_of hi], by rw [g?_of hi], ⟨c, by rw [g?_of hi], by rw [deaf_old (Nat.le_refl _)]; exact h.kc⟩, fun j hj hg => ?_⟩, h.co.size, fun j op hj ho hg x hx => ?_⟩
  · exfalso
    obtain ⟨op, ho, _⟩ := Option.map_eq_some_iff.1 hg
    have := lt_size_of_getElem? ho
    omega
  · have := lt_size_of_getElem? ho
    omega
theorem rel_step (F : Far Shun (BoxB N) (Grp N)) (hc : c ≠ 0) {gs : Array Goroutine} {b b' : Goroutine} {w : World} {sl : Option (Nat × Nat)} {t : Trace} {q : Nat → Nat} {k : Nat} (hn : gs.size = n) (hgc : gs[c]? = some b)
    (hst : stepG Try.prog false b w = .go b' w #[⟨.mark (.releaseMerge (stA (N + 3))), false, true⟩]) (hL : Lv Try.prog c t gs q) (hT : T1 Shun (BoxB N) N c p k 0 t)
    (h : ∀ gs' t', gs'.size = n → (∀ x, gs[0]? = some x → gs'[0]? = some (woken Try.prog b b' w x)) → gs'[c]? = some b' → Lv Try.prog c t' gs' q → T3 Shun (BoxB N) N c p k 0 t' → Wd Try.prog Q (crowd gs' w sl) t') :
    ∃ m' ops, runT Try.prog (crowd gs w sl) c = (.next m', ops) ∧ Wd Try.prog Q m' (t ++ ops) := by
  have cne : (c == 0) = false := by simpa using hc
  obtain ⟨gs', r1, r2, r3, r4, r5⟩ := crowd_act (i := c) (c := c) (sl := sl) hgc (.inr rfl) (by rw [cne]; exact hst) hL (Array.getElem?_eq_some_iff.1 hgc).1
  exact ⟨_, _, r1, h gs' _ (r2.trans hn) (fun x hx => r4 0 x (Ne.symm hc) hx) r3 r5 (t1_rel F hc hT)⟩
theorem part2 (F : Far Shun (BoxB N) (Grp N)) (hc : c ≠ 0) (hZ : Zk N Z) (hE : EndsWell Try.prog Q Shun N n (back bf A ops i rest K cs) Z) {kc : Nat} {b : Goroutine} {w : World} (hb : Pr Try.prog false (RCa 103 (N + 3) (N + 5)) (Dd Shun (BoxB N) N) (Stop2 N) kc b w) :
    Part Try.prog Q N c n bf A ops i rest K cs (T1 Shun (BoxB N) N c p) (Iz N Z KK) (Iz N Z (KK + 1)) kc b w := by
  have self : ∀ w, RCa 103 (N + 3) (N + 5) w w := fun w => by have := rca_at (N := N) w w.drawn; rwa [at_self] at this
  have nap : ∀ kc b w, Pr Try.prog false (RCa 103 (N + 3) (N + 5)) (Dd Shun (BoxB N) N) (Stop2 N) kc b w → Naps Try.prog Q N c n (back bf A ops i rest K cs) (T1 Shun (BoxB N) N c p) (Iz N Z (KK + 1)) kc b w := by
    intro kc b w hb
    refine seg_naps (seg2 F hc hZ _) (fun w h => ⟨_, h.2⟩) (fun kc gs a x b w sl t q har hao hS hw hn h0 hx hgc hs hL hT => ?_) hb
    obtain ⟨rfl, _, _, b', hst, m, hg⟩ := hs w (self w)
    refine rel_step F hc hn hgc hst hL hT fun gs' t' hn' h0' hcc hL' hT' => ?_
    exact (part3 wgLib F hc hZ hE (c3_pr hg)).naps a _ gs' sl t' q har hao hS hw hn' (h0' x h0) (hx.woken har hao _ _ _) hcc hL' hT'
  have reg : ∀ kc b w, Pr Try.prog false (RCa 103 (N + 3) (N + 5)) (Dd Shun (BoxB N) N) (Stop2 N) kc b w → Regs Try.prog Q N c n (back bf A ops i rest K cs) (T1 Shun (BoxB N) N c p) (Iz N Z (KK + 1)) kc b w := by
    intro kc b w hb
    refine seg_regs (seg2 F hc hZ _) (fun w h => ⟨_, h.2⟩) nap (fun k kc gs a b w sl t q ha hw hn h0 hgc hs hL hT => ?_) hb
    obtain ⟨rfl, _, _, b', hst, m, hg⟩ := hs w (self w)
    refine rel_step F hc hn hgc hst hL hT fun gs' t' hn' h0' hcc hL' hT' => ?_
    have h0a := h0' a h0
    rw [ha.woken_eq (fun w d => .at w d) (fun k a w h => .inl h.2.1) (.refl w)] at h0a
    exact (part3 wgLib F hc hZ hE (c3_pr hg)).regs k a gs' sl t' q ha hw hn' h0a hcc hL' hT'
  refine ⟨seg_gons (seg2 F hc hZ _) (fun w h => h.2) (fun w h => ⟨⟨hZ.grp w (N + 3) _ rfl 0 h.1, h.2.setSt _⟩, rca_set h.2⟩) reg (fun k kc gs a b w sl t q ha hw hn h0 hgc hs hL hT => ?_) hb, reg kc b w hb, nap kc b w hb⟩
  obtain ⟨rfl, _, _, b', hst, m, hg⟩ := hs w (self w)
  refine rel_step F hc hn hgc hst hL hT fun gs' t' hn' h0' hcc hL' hT' => ?_
  have h0a := h0' a h0
  rw [ha.woken_eq (fun w d => .at w d) (fun k a w h => .inl h.run) (.refl w)] at h0a
  exact (part3 wgLib F hc hZ hE (c3_pr hg)).gons k a gs' sl t' q ha hw hn' h0a hcc hL' hT'
end
end Go.Proofs.Ytdlnlcjmjgbikaa
/- The child's way from the call of bring to its receive from the closed channel. -/
namespace Go.Proofs.Ytdlnlcjmjgbikaa
open Go Go.Conc
open Go.ConcN (sumTo upd upd_ne upd_same)
open Go.ConcX (WgAt KK stA smA DC0 RCa KCa)

noncomputable section
variable {Q : Machine → Outcome → World → Trace → Prop} {Shun : Loc → Prop} {N c p n : Nat} {Z : World → Prop}
variable {bf : Frame} {A : Act} {ops : Array Oper} {i : Nat} {rest : List Nat} {K : List Item} {cs : List Frame}
/-- What the child suffers while it brings a cell up to date. -/
structure RC1 (N : Nat) (w w1 : World) : Prop where
  size : w1.heap.size = w.heap.size
  same : ∀ b, b ≠ N + 1 → b ≠ N + 3 → w1.heap[b]? = w.heap[b]?
  os : w1.os = w.os
  output : w1.output = w.output
  tape : w1.tape = w.tape
theorem RC1.at (w : World) (d : Nat) : RC1 N w (w.at d) := ⟨rfl, fun _ _ _ => rfl, rfl, rfl, rfl⟩
theorem RC1.trans (a b c : World) (h : RC1 N a b) (k : RC1 N b c) : RC1 N a c := ⟨k.size.trans h.size, fun j h1 h2 => (k.same j h1 h2).trans (h.same j h1 h2), k.os.trans h.os, k.output.trans h.output, k.tape.trans h.tape⟩
/-- What it does. -/
structure Dc1 (Shun : Loc → Prop) (N : Nat) (w w1 : World) (es : Array Event) : Prop where
  same : ∀ b, N ≤ b → b < N + 5 → w1.heap[b]? = w.heap[b]?
  ev : ∀ e ∈ es, EC Shun (BoxB N) N e
/-- As it came there, or let try again. -/
def Tries (N : Nat) (x b : Goroutine) : Prop := b = x ∨ b = { parked x #[rcase (N + 1) (.int .i64 0)] (.recv true) with status := .running }
/-- It stands at its second receive. -/
def Stop1 (N : Nat) (Z : World → Prop) (kc : Nat) (b : Goroutine) (w : World) : Prop :=
  kc = 0 ∧ Z w ∧ w.heap[N + 4]? = some (.cells #[.int .i64 0] 3) ∧ ∃ kv t6 t7 t8 t9 t10 t11 t12, Tries N (G ((baseK 44 .deferred).at (tW N kv (.chan (some (N + 1))) t6 t7 t8 t9 t10 t11 t12) (.inRegion opsR [0, 1] :: kR)) [bornF]) b
/-- The channel is closed. -/
def Shut (N : Nat) (w : World) : Prop := w.heap[N + 1]? = some (.chan 0 #[] true 1 1 false)
def Iw (N : Nat) (st : Int) (w : World) : Prop := Shut N w ∧ WgAt 103 (N + 3) w st 0
theorem seg1 (F : Far Shun (BoxB N) (Grp N)) (hc : c ≠ 0) (st : Int) : Seg N c (T1 Shun (BoxB N) N c p) (RC1 N) (Dc1 Shun N) (Stop1 N Z) (Iw N st) where
  pos := hc
  at_ := .at
  trans := .trans
  lets := fun w w' _ h => ⟨h.same _ (by omega) (by omega), h.same _ (by omega) (by omega), fun st sm hw => ⟨st, sm, (h.same (N + 3) (by omega) (by omega)).trans hw, .inl rfl⟩⟩
  t0 := fun k kc t es fn pos h he => h.own0 F hc he
  tc := fun k kc t w w' es fn pos h hd => h.ownC F hc hd.ev
  ts := fun k kc t ops h hs => h.slip hs
  stc := fun k b w h => by obtain ⟨_, _, _, _, _, _, _, _, _, _, _, rfl | rfl⟩ := h <;> rfl
  iat := fun w d h => h
  ic := fun w w' es h hd => ⟨(hd.same (N + 1) (by omega) (by omega)).trans h.1, (hd.same (N + 3) (by omega) (by omega)).trans h.2⟩
/-- Others stand as they stood; the list has grown by nobody's marks. -/
theorem Lv.swap {P : Program} {t u : Trace} {gs gs' : Array Goroutine} {q : Nat → Nat} (h : Lv P c t gs q) (hs : gs'.size = gs.size) (hg : ∀ j, j ≠ 0 → j ≠ c → gs'[j]? = gs[j]?) (hu : ∀ op ∈ u, op.act ≠ .mark .disable ∧ op.act ≠ .mark .enable) : Lv P c (t ++ u) gs' q := by
  refine ⟨fun j x h0 hc hx => ?_, fun j hj => ?_⟩
  · rw [Go.ConcX.Deaf_keep t j u hu]
    exact h.old j x h0 hc ((hg j h0 hc).symm.trans hx)
  · rw [Go.ConcX.Deaf_keep t j u hu]
    exact h.above j (by omega)
/-- Nobody stands ready at the channel. -/
theorem no_partner {P : Program} {t : Trace} {gs : Array Goroutine} {q : Nat → Nat} (hL : Lv P c t gs q) {a : Goroutine} (h0 : gs[0]? = some a) (ha : ∀ r s, offersAt a r s = []) (r : Nat) (s : Bool) : partners (gs.setIfInBounds c ph) r s = [] := by
  refine partners_nil fun j g hg => ?_
  rcases getElem?_stand gs c j g hg with ⟨_, rfl⟩ | ⟨hj, hg⟩
  · exact offersAt_ph r s
  · by_cases hj0 : j = 0
    · subst hj0
      obtain rfl := Option.some.inj (h0.symm.trans hg)
      exact ha r s
    · have hq := hL.old j g hj0 hj hg
      exact offersAt_of_not_blocked (by rcases hq.status with h | h <;> rw [h] <;> simp) r s
theorem sleeps_off {a x : Goroutine} (har : a.status = .running) (hao : a.offers = none) (hx : Sleeps a x) (r : Nat) (s : Bool) : offersAt x r s = [] := by
  rcases hx with rfl | rfl
  · exact offersAt_of_not_blocked (by rw [har]; simp) r s
  · simp [offersAt, hao]
theorem runs_off {a : Goroutine} (har : a.status = .running) (r : Nat) (s : Bool) : offersAt a r s = [] := offersAt_of_not_blocked (by rw [har]; simp) r s
theorem tries_step {x b : Goroutine} (h : Tries N x b) (w : World) : stepG Try.prog false b w = stepG Try.prog false x w := by
  rcases h with rfl | rfl
  · rfl
  · exact (stepG_tries false _ w).trans (stepG_same rfl rfl rfl w)
/-- The child receives from the closed channel. -/
theorem shut_step (hc : c ≠ 0) {gs : Array Goroutine} {b : Goroutine} {w : World} {sl : Option (Nat × Nat)} {t : Trace} {q : Nat → Nat} {k : Nat} (hn : gs.size = n) {a : Goroutine} (h0 : gs[0]? = some a) (ha : ∀ r s, offersAt a r s = []) (hgc : gs[c]? = some b) (hs : Stop1 N Z 0 b w) (hsh : Shut N w) (hL : Lv Try.prog c t gs q) (hT : T1 Shun (BoxB N) N c p k 0 t)
    (h : ∀ gs' t' kv t7 t8 t9 t10 t11 t12, gs'.size = n → gs'[0]? = some a → gs'[c]? = some (G ((baseK 44 .deferred).at (tW N kv (.chan (some (N + 1))) (.tuple #[.int .i64 0, .bool false]) t7 t8 t9 t10 t11 t12) (.inRegion opsR [1] :: kR)) [bornF]) → Lv Try.prog c t' gs' q → T1 Shun (BoxB N) N c p k 0 t' → Wd Try.prog Q (crowd gs' w sl) t') :
    ∃ m' ops, runT Try.prog (crowd gs w sl) c = (.next m', ops) ∧ Wd Try.prog Q m' (t ++ ops) := by
  obtain ⟨_, _, _, kv, t6, t7, t8, t9, t10, t11, t12, hs⟩ := hs
  have cne : (c == 0) = false := by simpa using hc
  have hlt : c < gs.size := (Array.getElem?_eq_some_iff.1 hgc).1
  have hr := crowd_recv_closed (P := Try.prog) (sl := sl) (i := c) hgc (by rw [cne]; exact (tries_step hs w).trans (recv_step _ rfl _ _ w)) hsh (no_partner hL h0 ha _ _)
  rw [finishComm_recv] at hr
  refine ⟨_, _, hr, ?_⟩
  have hu : ∀ op ∈ (MemOp.ofEvents c 44 (G ((baseK 44 .deferred).at (tW N kv (.chan (some (N + 1))) t6 t7 t8 t9 t10 t11 t12) (.inRegion opsR [0, 1] :: kR)) [bornF]).frame.place #[] ++ #[⟨c, 44, (G ((baseK 44 .deferred).at (tW N kv (.chan (some (N + 1))) t6 t7 t8 t9 t10 t11 t12) (.inRegion opsR [0, 1] :: kR)) [bornF]).frame.place, .recvClosed (N + 1)⟩] : Trace), op.act.touch? = none ∧ op.act ≠ .mark (.release (stA (N + 3))) ∧ op.act ≠ .mark .disable ∧ op.act ≠ .mark .enable := by
    intro op hop
    rw [ofEvents_nil, Array.empty_append, Array.mem_singleton] at hop
    subst hop
    exact ⟨rfl, by simp, by simp, by simp⟩
  refine h _ _ kv t7 t8 t9 t10 t11 t12 (by simpa using hn) (by rw [Array.getElem?_setIfInBounds_ne hc]; exact h0) ?_ (hL.swap (by simp) (fun j _ hj => Array.getElem?_setIfInBounds_ne (Ne.symm hj)) fun op hop => (hu op hop).2.2) ⟨hT.co.mute fun op hop => ⟨(hu op hop).1, (hu op hop).2.1⟩, (Go.ConcX.Deaf_keep t 0 _ fun op hop => (hu op hop).2.2).trans hT.k0, (Go.ConcX.Deaf_keep t c _ fun op hop => (hu op hop).2.2).trans hT.kc⟩
  rw [Array.getElem?_setIfInBounds_self_of_lt hlt]
  rfl
theorem rc1_set {w : World} {v : Value} : RC1 N w (w.setCell (stA (N + 3)) v) := by
  obtain ⟨o, e, _⟩ := setCell_put w (stA (N + 3)) v
  refine ⟨?_, fun b _ h => setCell_other w (N + 3) 0 b v h, ?_, ?_, ?_⟩ <;> rw [e]
  simp
theorem part1 (F : Far Shun (BoxB N) (Grp N)) (hS : ∀ a : Addr, N ≤ a.block → ¬ Shun (.cell a)) (hc : c ≠ 0) (hZ : Zk N Z) (hE : EndsWell Try.prog Q Shun N n (back bf A ops i rest K cs) Z) {kc : Nat} {b : Goroutine} {w : World} (hb : Pr Try.prog false (RC1 N) (Dc1 Shun N) (Stop1 N Z) kc b w) :
    Part Try.prog Q N c n bf A ops i rest K cs (T1 Shun (BoxB N) N c p) (Iw N KK) (Iw N (KK + 1)) kc b w := by
  have self : ∀ w, RC1 N w w := fun w => by have := RC1.at (N := N) w w.drawn; rwa [at_self] at this
  have nap : ∀ kc b w, Pr Try.prog false (RC1 N) (Dc1 Shun N) (Stop1 N Z) kc b w → Naps Try.prog Q N c n (back bf A ops i rest K cs) (T1 Shun (BoxB N) N c p) (Iw N (KK + 1)) kc b w := by
    intro kc b w hb
    refine seg_naps (seg1 F hc _) (fun w h => ⟨_, h.2⟩) (fun kc gs a x b w sl t q har hao hS3 hw hn h0 hx hgc hs hL hT => ?_) hb
    have hs1 := hs w (self w)
    obtain rfl := hs1.1
    refine shut_step hc hn h0 (sleeps_off har hao hx) hgc hs1 hw.1 hL hT fun gs' t' kv t7 t8 t9 t10 t11 t12 hn' h0' hcc hL' hT' => ?_
    exact (part2 F hc hZ hE (c2_pr F hS (.inr hw.2) hs1.2.2.1)).naps a x gs' sl t' q har hao hS3 ⟨hs1.2.1, hw.2⟩ hn' h0' hx hcc hL' hT'
  have reg : ∀ kc b w, Pr Try.prog false (RC1 N) (Dc1 Shun N) (Stop1 N Z) kc b w → Regs Try.prog Q N c n (back bf A ops i rest K cs) (T1 Shun (BoxB N) N c p) (Iw N (KK + 1)) kc b w := by
    intro kc b w hb
    refine seg_regs (seg1 F hc _) (fun w h => ⟨_, h.2⟩) nap (fun k kc gs a b w sl t q ha hw hn h0 hgc hs hL hT => ?_) hb
    have hs1 := hs w (self w)
    obtain rfl := hs1.1
    refine shut_step hc hn h0 (runs_off (ha.runs (fun w => .refl w) fun k a w h => h.2.1)) hgc hs1 hw.1 hL hT fun gs' t' kv t7 t8 t9 t10 t11 t12 hn' h0' hcc hL' hT' => ?_
    exact (part2 F hc hZ hE (c2_pr F hS (.inr hw.2) hs1.2.2.1)).regs k a gs' sl t' q ha ⟨hs1.2.1, hw.2⟩ hn' h0' hcc hL' hT'
  refine ⟨seg_gons (seg1 F hc _) (fun w h => h.2) (fun w h => ⟨⟨(setCell_other w (N + 3) 0 (N + 1) _ (by omega)).trans h.1, h.2.setSt _⟩, rc1_set⟩) reg (fun k kc gs a b w sl t q ha hw hn h0 hgc hs hL hT => ?_) hb, reg kc b w hb, nap kc b w hb⟩
  have hs1 := hs w (self w)
  obtain rfl := hs1.1
  refine shut_step hc hn h0 (runs_off (ha.runs (fun w => .refl w) fun k a w h => h.run)) hgc hs1 hw.1 hL hT fun gs' t' kv t7 t8 t9 t10 t11 t12 hn' h0' hcc hL' hT' => ?_
  exact (part2 F hc hZ hE (c2_pr F hS (.inl hw.2) hs1.2.2.1)).gons k a gs' sl t' q ha ⟨hs1.2.1, hw.2⟩ hn' h0' hcc hL' hT'
end
end Go.Proofs.Ytdlnlcjmjgbikaa
