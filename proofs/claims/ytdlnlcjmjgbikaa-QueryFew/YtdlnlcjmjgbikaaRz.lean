/- The child's way beside goroutine 0 that is registered, or sleeps. -/
import Derived.Test.YtdlnlcjmjgbikaaRy
namespace Go.Proofs.Ytdlnlcjmjgbikaa
open Go Go.Conc
open Go.ConcN (sumTo upd upd_ne upd_same)
open Go.ConcX (WgAt KK stA smA DC0)

section
variable {P : Program} {Q : Machine → Outcome → World → Trace → Prop} {N c n : Nat} {g1 : Goroutine}
theorem RG.refl (w : World) : RG N w w := ⟨rfl, rfl, fun st sm h => ⟨st, sm, h, .inl rfl⟩⟩
theorem wle_trans {a b d : Int × Int} (h : Wle a b) (k : Wle b d) : Wle a d := by
  have n1 : ((1 : Int), (0 : Int)) ≠ (KK, 0) := by decide
  have n2 : ((1 : Int), (0 : Int)) ≠ (KK + 1, 0) := by decide
  have n3 : ((1 : Int), (0 : Int)) ≠ (0, 0) := by decide
  have n4 : ((0 : Int), (0 : Int)) ≠ (KK, 0) := by decide
  have n5 : ((0 : Int), (0 : Int)) ≠ (KK + 1, 0) := by decide
  have n6 : ((0 : Int), (0 : Int)) ≠ (1, 0) := by decide
  have n7 : ((0 : Int), (1 : Int)) ≠ (KK, 0) := by decide
  have n8 : ((0 : Int), (1 : Int)) ≠ (KK + 1, 0) := by decide
  have n9 : ((0 : Int), (1 : Int)) ≠ (1, 0) := by decide
  have n10 : ((0 : Int), (1 : Int)) ≠ (0, 0) := by decide
  rcases h with rfl | ⟨rfl, h⟩ | ⟨rfl, h⟩ | ⟨rfl, h⟩ | ⟨rfl, h⟩
  · exact k
  · refine .inr (.inl ⟨rfl, ?_⟩)
    rcases h with rfl | rfl <;> rcases k with rfl | ⟨e, k⟩ | ⟨e, k⟩ | ⟨e, k⟩ | ⟨e, k⟩ <;> first | exact absurd e (by assumption) | exact .inl rfl | exact .inr rfl | exact .inr k | exact k
  · refine .inr (.inr (.inl ⟨rfl, ?_⟩))
    rcases h with rfl | rfl | rfl <;> rcases k with rfl | ⟨e, k⟩ | ⟨e, k⟩ | ⟨e, k⟩ | ⟨e, k⟩ <;> first | exact absurd e (by assumption) | exact .inl rfl | exact .inr (.inl rfl) | exact .inr (.inr rfl) | exact .inr (.inr k) | exact .inr k
  · refine .inr (.inr (.inr (.inl ⟨rfl, ?_⟩)))
    rcases h with rfl | rfl <;> rcases k with rfl | ⟨e, k⟩ | ⟨e, k⟩ | ⟨e, k⟩ | ⟨e, k⟩ <;> first | exact absurd e (by assumption) | exact .inl rfl | exact .inr rfl | exact .inr k | exact k
  · refine .inr (.inr (.inr (.inr ⟨rfl, ?_⟩)))
    subst h
    rcases k with rfl | ⟨e, k⟩ | ⟨e, k⟩ | ⟨e, k⟩ | ⟨e, k⟩ <;> first | exact absurd e (by assumption) | rfl | exact k
theorem WT.trans {a b d : World} (h : WT N a b) (k : WT N b d) : WT N a d := by
  intro st sm hw
  obtain ⟨s1, m1, h1, l1⟩ := h st sm hw
  obtain ⟨s2, m2, h2, l2⟩ := k s1 m1 h1
  exact ⟨s2, m2, h2, wle_trans l1 l2⟩
theorem RG.trans {a b d : World} (h : RG N a b) (k : RG N b d) : RG N a d := ⟨k.1.trans h.1, k.2.1.trans h.2.1, WT.trans h.2.2 k.2.2⟩
theorem RG.at (w : World) (d : Nat) : RG N w (w.at d) := ⟨rfl, rfl, fun st sm h => ⟨st, sm, h, .inl rfl⟩⟩
theorem rg_at (w w1 : World) (h : AtRel w w1) : RG N w w1 := by
  obtain ⟨d, rfl⟩ := h
  exact .at w d
/-- One more that only leaves. -/
theorem Lv.child {t : Trace} {gs : Array Goroutine} {q : Nat → Nat} (h : Lv P c t gs q) (hc : c ≠ 0) {g : Goroutine} (hg : gs[c]? = some g) {m : Nat} (hq : QuitsD P m (Deaf t c) g) : Lv P 0 t gs (upd q c m) := by
  refine ⟨fun i x h0 _ hx => ?_, h.above⟩
  by_cases hi : i = c
  · subst hi
    obtain rfl := Option.some.inj (hx.symm.trans hg)
    rw [upd_same]
    exact hq
  · rw [upd_ne q m hi]
    exact h.old i x h0 hi hx
/-- Where goroutine 0 stops that is registered. -/
def Sg2 (P : Program) (N : Nat) (g1 : Goroutine) (k : Nat) (a : Goroutine) (w : World) : Prop := k = 1 ∧ SW3 P N g1 a w
/-- What is asked of a piece of the child's way. -/
structure Seg (N c : Nat) (T : Nat → Nat → Trace → Prop) (Rc : World → World → Prop) (Dc : World → World → Array Event → Prop) (Stopc : Nat → Goroutine → World → Prop) (I : World → Prop) : Prop where
  pos : c ≠ 0
  at_ : ∀ w d, Rc w (w.at d)
  trans : ∀ a b c, Rc a b → Rc b c → Rc a c
  lets : ∀ w w' es, Dc w w' es → RG N w w'
  t0 : ∀ k kc t es fn pos, T k kc t → (∀ e ∈ es, E0 (BoxB N) N e) → T (deafBehind k es) kc (t ++ MemOp.ofEvents 0 fn pos es)
  tc : ∀ k kc t w w' es fn pos, T k kc t → Dc w w' es → T k (deafBehind kc es) (t ++ MemOp.ofEvents c fn pos es)
  ts : ∀ k kc t ops, T k kc t → Slip c ops → T k kc (t ++ ops)
  stc : ∀ k b w, Stopc k b w → b.status = .running
  iat : ∀ w d, I w → I (w.at d)
  ic : ∀ w w' es, I w → Dc w w' es → I w'
variable {T : Nat → Nat → Trace → Prop} {Rc : World → World → Prop} {Dc : World → World → Array Event → Prop} {Stopc : Nat → Goroutine → World → Prop} {I : World → Prop}
/-- Goroutine 0 sleeps. -/
def Naps (P : Program) (Q : Machine → Outcome → World → Trace → Prop) (N c n : Nat) (g1 : Goroutine) (T : Nat → Nat → Trace → Prop) (I : World → Prop) (kc : Nat) (b : Goroutine) (w : World) : Prop :=
  ∀ a x gs sl t q, a.status = .running → a.offers = none → (∀ w1, RG N w w1 → SW3 P N g1 a w1) → I w → gs.size = n → gs[0]? = some x → Sleeps a x → gs[c]? = some b → Lv P c t gs q → T 1 kc t → Wd P Q (crowd gs w sl) t
/-- Goroutine 0 is on its way to sleep. -/
def Regs (P : Program) (Q : Machine → Outcome → World → Trace → Prop) (N c n : Nat) (g1 : Goroutine) (T : Nat → Nat → Trace → Prop) (I : World → Prop) (kc : Nat) (b : Goroutine) (w : World) : Prop :=
  ∀ k a gs sl t q, Pr P true (RG N) (D0w N) (Sg2 P N g1) k a w → I w → gs.size = n → gs[0]? = some a → gs[c]? = some b → Lv P c t gs q → T k kc t → Wd P Q (crowd gs w sl) t
theorem seg_naps (H : Seg N c T Rc Dc Stopc I) (hI : ∀ w, I w → ∃ st, WgAt 103 (N + 3) w st 0)
    (hc : ∀ kc gs a x b w sl t q, a.status = .running → a.offers = none → (∀ w1, RG N w w1 → SW3 P N g1 a w1) → I w → gs.size = n → gs[0]? = some x → Sleeps a x → gs[c]? = some b → (∀ w1, Rc w w1 → Stopc kc b w1) → Lv P c t gs q → T 1 kc t → ∃ m' ops, runT P (crowd gs w sl) c = (.next m', ops) ∧ Wd P Q m' (t ++ ops))
    {kc : Nat} {b : Goroutine} {w : World} (hb : Pr P false Rc Dc Stopc kc b w) : Naps P Q N c n g1 T I kc b w := by
  intro a x gs sl t q har hao hS hw hn h0 hx hgc hL hT
  have nap : Nap P c (fun k kc t => k = 1 ∧ T k kc t) Rc Dc Stopc (fun w' => I w' ∧ RG N w w') a :=
    ⟨H.pos, har, hao, fun w1 h1 => (hS w1 h1.2).2.2.1 (hI w1 h1.1), H.at_, H.trans, fun w1 d h1 => ⟨H.iat _ _ h1.1, h1.2.trans (.at _ _)⟩, fun w1 w2 es h1 hd => ⟨H.ic _ _ _ h1.1 hd, h1.2.trans (H.lets _ _ _ hd)⟩,
      fun k kc t w w' es fn pos h hd => ⟨h.1, H.tc _ _ _ _ _ _ _ _ h.2 hd⟩, fun k kc t ops h hs => ⟨h.1, H.ts _ _ _ _ h.2 hs⟩, H.stc⟩
  refine nap_fin (n := n) nap (fun k kc gs x b w1 sl t q hn h0 hx hgc hs hS1 hL hT => ?_) hb w (by have := H.at_ w w.drawn; rwa [at_self] at this) ⟨hw, .refl w⟩ gs sl t q x 1 hn h0 hx hgc hL ⟨rfl, hT⟩
  obtain ⟨rfl, hT⟩ := hT
  exact hc kc gs a x b w1 sl t q har hao (fun w2 h2 => hS w2 (hS1.2.trans h2)) hS1.1 hn h0 hx hgc hs hL hT
theorem seg_regs (H : Seg N c T Rc Dc Stopc I) (hI : ∀ w, I w → ∃ st, WgAt 103 (N + 3) w st 0)
    (hnap : ∀ kc b w, Pr P false Rc Dc Stopc kc b w → Naps P Q N c n g1 T I kc b w)
    (hc : ∀ k kc gs a b w sl t q, Pr P true (RG N) (D0w N) (Sg2 P N g1) k a w → I w → gs.size = n → gs[0]? = some a → gs[c]? = some b → (∀ w1, Rc w w1 → Stopc kc b w1) → Lv P c t gs q → T k kc t → ∃ m' ops, runT P (crowd gs w sl) c = (.next m', ops) ∧ Wd P Q m' (t ++ ops))
    {kc : Nat} {b : Goroutine} {w : World} (hb : Pr P false Rc Dc Stopc kc b w) : Regs P Q N c n g1 T I kc b w := by
  intro k a gs sl t q ha hw hn h0 hgc hL hT
  have selfc : ∀ w, Rc w w := fun w => by have := H.at_ w w.drawn; rwa [at_self] at this
  have D : Duo2 P c T I (RG N) Rc (D0w N) Dc (Sg2 P N g1) Stopc :=
    ⟨H.pos, fun w d => .at w d, H.at_, fun _ _ _ h k => h.trans k, H.trans, fun w w' es h => by rw [h.1]; exact selfc w, H.lets, fun k kc t w w' es fn pos h d => H.t0 _ _ _ _ _ _ h d.2, H.tc, H.ts, fun k a w h => .inl h.2.1, fun k a w h => .inl (H.stc _ _ _ h), fun k a w k' b h _ => .inl h.2.1,
      H.iat, fun w w' es h d => by rw [d.1]; exact h, H.ic⟩
  refine duo2_fin (n := n) D (fun k kc gs a b w sl t q hw hn h0 hgc hs har hb hL hT => ?_) (fun k kc gs a b w sl t q hw hn h0 hgc hs _ ha hL hT => hc k kc gs a b w sl t q ha hw hn h0 hgc hs hL hT) ha w (.refl w) hw kc b hb gs sl t q hn h0 hgc hL hT
  -- it goes to sleep
  obtain ⟨rfl, hs3⟩ := hs w (.refl w)
  have hlt : c < gs.size := (Array.getElem?_eq_some_iff.1 hgc).1
  obtain ⟨gs', r1, r2, r3, r4, r5⟩ := crowd_act (i := 0) (c := c) (sl := sl) h0 (.inl rfl) (hs3.2.2.1 (hI w hw)) hL hlt
  rw [ofEvents_nil] at r1 r5
  refine ⟨_, _, r1, ?_⟩
  rw [Array.append_empty] at r5 ⊢
  have hcc : gs'[c]? = some b := by
    rw [r4 c b H.pos hgc]
    unfold Go.Conc.woken
    simp
  exact hnap kc b w hb a _ gs' sl t q hs3.1 hs3.2.1 (fun w1 h1 => (hs w1 h1).2) hw (r2.trans hn) r3 (.inr rfl) hcc r5 hT
end
end Go.Proofs.Ytdlnlcjmjgbikaa
/- The child's last steps: from its count down to its end. -/
namespace Go.Proofs.Ytdlnlcjmjgbikaa
open Go Go.Conc
open Go.ConcN (sumTo upd upd_ne upd_same)
open Go.ConcX (WgAt KK stA smA DC0 AtD4 AtD3 AtD2 AtD1 AtK1 AtR0 RCa RCd KCa)

section
variable {P : Program} {Q : Machine → Outcome → World → Trace → Prop} {Shun : Loc → Prop} {N c p n : Nat} {g1 : Goroutine} {Z : World → Prop}
theorem setCell_other (w : World) (b i j : Nat) (v : Value) (h : j ≠ b) : (w.setCell ⟨b, i, none⟩ v).heap[j]? = w.heap[j]? := by
  obtain ⟨o, e, _⟩ := setCell_put w ⟨b, i, none⟩ v
  rw [e]
  exact Array.getElem?_setIfInBounds_ne (Ne.symm h)
theorem set_rg {w : World} {i : Nat} {v : Value} (h : WT N w (w.setCell ⟨N + 3, i, none⟩ v)) : RG N w (w.setCell ⟨N + 3, i, none⟩ v) :=
  ⟨setCell_other w (N + 3) i (N + 1) v (by omega), setCell_other w (N + 3) i (N + 2) v (by omega), h⟩
/-- The child's steps behind its count down. -/
def Dn (N : Nat) (w w' : World) (es : Array Event) : Prop :=
  (w' = w ∧ (es = #[] ∨ es = #[⟨.cell (stA (N + 3)), false, true⟩])) ∨ (WgAt 103 (N + 3) w 1 0 ∧ w' = w.setCell (stA (N + 3)) (.int .u64 0) ∧ es = #[⟨.cell (stA (N + 3)), true, true⟩])
def T4 (Shun : Loc → Prop) (N c p k kc : Nat) (t : Trace) : Prop := kc = 1 ∧ T3 Shun (BoxB N) N c p k 1 t
def I4 (N : Nat) (Z : World → Prop) (w : World) : Prop := Z w ∧ (WgAt 103 (N + 3) w 1 0 ∨ WgAt 103 (N + 3) w 0 0)
def Stop4 (P : Program) (N : Nat) (kc : Nat) (b : Goroutine) (w : World) : Prop := kc = 1 ∧ AtD4 P (N + 3) b w ∧ WgAt 103 (N + 3) w 0 0
theorem wt_of {w w1 : World} {s m s' m' : Int} (h : WgAt 103 (N + 3) w s m) (h' : WgAt 103 (N + 3) w1 s' m') (hl : Wle (s, m) (s', m')) : WT N w w1 := by
  intro st sm hw
  obtain ⟨rfl, rfl⟩ := h.unique hw
  exact ⟨_, _, h', hl⟩
theorem dn_rg {w w' : World} {es : Array Event} (h : Dn N w w' es) : RG N w w' := by
  rcases h with ⟨rfl, _⟩ | ⟨hw, rfl, _⟩
  · exact .refl _
  · exact set_rg (wt_of hw (hw.setSt 0) (.inr (.inr (.inr (.inl ⟨rfl, .inl rfl⟩)))))
theorem t4_dn (F : Far Shun (BoxB N) (Grp N)) (hc : c ≠ 0) {k kc : Nat} {t : Trace} {w w' : World} {es : Array Event} {fn : FuncId} {pos : String} (h : T4 Shun N c p k kc t) (hd : Dn N w w' es) : T4 Shun N c p k (deafBehind kc es) (t ++ MemOp.ofEvents c fn pos es) := by
  obtain ⟨rfl, h⟩ := h
  rcases hd with ⟨_, rfl | rfl⟩ | ⟨_, _, rfl⟩
  · rw [ofEvents_nil, Array.append_empty]; exact ⟨rfl, h⟩
  · exact ⟨rfl, h.deafC F hc (a := stA (N + 3)) (y := false) rfl none rfl⟩
  · exact ⟨rfl, h.deafC F hc (a := stA (N + 3)) (y := true) rfl none rfl⟩
theorem rcd_at (w : World) (d : Nat) : RCd (N + 5) w (w.at d) := fun _ _ => rfl
theorem rcd_trans (a b c : World) (h : RCd (N + 5) a b) (k : RCd (N + 5) b c) : RCd (N + 5) a c := fun j hj => (k j hj).trans (h j hj)
theorem seg4 (F : Far Shun (BoxB N) (Grp N)) (hc : c ≠ 0) (hZ : Zk N Z) : Seg N c (T4 Shun N c p) (RCd (N + 5)) (Dn N) (Stop4 P N) (I4 N Z) where
  pos := hc
  at_ := rcd_at
  trans := rcd_trans
  lets := fun _ _ _ h => dn_rg h
  t0 := fun k kc t es fn pos h he => ⟨h.1, h.2.own0 F hc he⟩
  tc := fun k kc t w w' es fn pos h hd => t4_dn F hc h hd
  ts := fun k kc t ops h hs => ⟨h.1, h.2.slip hs⟩
  stc := fun k b w h => h.2.1.1
  iat := fun w d h => ⟨hZ.at_ _ _ h.1, h.2⟩
  ic := fun w w' es h hd => by
    rcases hd with ⟨rfl, _⟩ | ⟨hw, rfl, _⟩
    · exact h
    · exact ⟨hZ.grp w (N + 3) _ rfl 0 h.1, .inr (hw.setSt 0)⟩
theorem wg_rcd {w w1 : World} {s m : Int} (h : WgAt 103 (N + 3) w s m) (r : RCd (N + 5) w w1) : WgAt 103 (N + 3) w1 s m := (r (N + 3) (by omega)).trans h
theorem dc0_dn (a b : World) (e : Array Event) (h : DC0 a b e) : Dn N a b e ∧ ∀ k, deafBehind k e = k := by
  obtain ⟨rfl, rfl⟩ := h
  exact ⟨.inl ⟨rfl, .inl rfl⟩, fun k => rfl⟩
/-- From behind the count down to the semaphore's release. -/
theorem c4_pr {m : Nat} {b : Goroutine} {w : World} (h : Goes P false (RCd (N + 5)) DC0 (AtD2 P (N + 3) (N + 5)) m b w) (hw : WgAt 103 (N + 3) w 1 0) : Pr P false (RCd (N + 5)) (Dn N) (Stop4 P N) 1 b w := by
  have keep : ∀ s m, (∀ a b : World, WgAt 103 (N + 3) a s m → RCd (N + 5) a b → WgAt 103 (N + 3) b s m) ∧ ∀ a b e, WgAt 103 (N + 3) a s m → DC0 a b e → WgAt 103 (N + 3) b s m :=
    fun s m => ⟨fun _ _ h r => wg_rcd h r, fun _ _ _ h d => by rw [d.1]; exact h⟩
  have lift : ∀ {S : Goroutine → World → Prop} {st sm : Int} {m : Nat} {b : Goroutine} {w : World}, Goes P false (RCd (N + 5)) DC0 S m b w → WgAt 103 (N + 3) w st sm → Pr P false (RCd (N + 5)) (Dn N) (fun k b w => (k = 1 ∧ S b w) ∧ WgAt 103 (N + 3) w st sm) 1 b w := by
    intro S st sm m b w hg hw
    have h1 := (goes_pr (R' := RCd (N + 5)) (D' := DC0) (fun _ _ r => r) (fun a b e h => ⟨h, (dc0_dn (N := N) a b e h).2⟩) (k := 1) hg).keep (keep st sm).1 (keep st sm).2 hw
    exact h1.anti (fun _ _ r => r) fun a b e h => (dc0_dn a b e h).1
  refine (lift h hw).then fun k b w hs => ?_
  obtain ⟨⟨rfl, hr, _⟩, hw⟩ := hs w (fun _ _ => rfl)
  refine Pr.mk hr fun w1 h1 => ?_
  obtain ⟨⟨_, _, b', hst, m, hg⟩, hw1⟩ := hs w1 h1
  refine ⟨b', w1, _, hst, .inl ⟨rfl, .inr rfl⟩, ?_⟩
  rw [show deafBehind 1 #[Go.ConcX.rd (stA (N + 3))] = 1 from rfl]
  refine (lift hg hw1).then fun k b w hs => ?_
  obtain ⟨⟨rfl, hr, _⟩, hw⟩ := hs w (fun _ _ => rfl)
  refine Pr.mk hr fun w1 h1 => ?_
  obtain ⟨⟨_, _, b', hst, m, hg⟩, hw1⟩ := hs w1 h1
  refine ⟨b', _, _, hst, .inr ⟨hw1, rfl, rfl⟩, ?_⟩
  rw [show deafBehind 1 #[Go.ConcX.wr (stA (N + 3))] = 1 from rfl]
  refine (lift hg (hw1.setSt 0)).mono fun k b w h => ⟨h.1.1, h.1.2, h.2⟩
/-- The list behind the semaphore's release. -/
theorem t3_sem (F : Far Shun (BoxB N) (Grp N)) (hc : c ≠ 0) {k : Nat} {t : Trace} {fn : FuncId} {pos : String} (h : T3 Shun (BoxB N) N c p k 1 t) : T3 Shun (BoxB N) N c p k 1 (t ++ MemOp.ofEvents c fn pos (semEvents (smA (N + 3)))) := by
  have e : MemOp.ofEvents c fn pos (semEvents (smA (N + 3))) = MemOp.ofEvents c fn pos #[⟨.mark .disable, false, true⟩] ++ (MemOp.ofEvents c fn pos #[⟨.cell (smA (N + 3)), false, true⟩, ⟨.cell (smA (N + 3)), true, true⟩] ++ MemOp.ofEvents c fn pos #[⟨.mark .enable, false, true⟩]) := by
    simp [ofEvents_eq, semEvents]
  rw [e, ← Array.append_assoc, ← Array.append_assoc]
  have h1 := h.muteC (fn := fn) (pos := pos) F hc (es := #[⟨.mark .disable, false, true⟩]) (by simp [MemAct.ofEvent, MemAct.touch?])
  rw [show deafBehind 1 #[⟨.mark .disable, false, true⟩] = 1 + 1 from rfl] at h1
  have h2 := h1.deafC (fn := fn) (pos := pos) F hc (a := smA (N + 3)) (y := false) rfl (some true) rfl
  have h3 := h2.muteC (fn := fn) (pos := pos) F hc (es := #[⟨.mark .enable, false, true⟩]) (by simp [MemAct.ofEvent, MemAct.touch?])
  exact h3
/-- The child's step at the semaphore. -/
theorem sem_step (F : Far Shun (BoxB N) (Grp N)) (hc : c ≠ 0) (hZ : Zk N Z) {gs : Array Goroutine} {b : Goroutine} {w : World} {sl : Option (Nat × Nat)} {t : Trace} {q : Nat → Nat} {k : Nat} (hn : gs.size = n) (hgc : gs[c]? = some b) (hs : AtD4 P (N + 3) b w) (hwg : WgAt 103 (N + 3) w 0 0) (hz : Z w) (hL : Lv P c t gs q) (hT : T3 Shun (BoxB N) N c p k 1 t)
    (h : ∀ gs' t' q' b' w', gs'.size = n → mayWake P b = true → b'.status = .running ∨ b'.status = .finished → (∀ x, gs[0]? = some x → gs'[0]? = some (woken P b b' w' x)) → Lv P 0 t' gs' q' → T3s Shun N c p k t' → Z w' → WgAt 103 (N + 3) w' 0 1 → RG N w w' → Wd P Q (crowd gs' w' sl) t') :
    ∃ m' ops, runT P (crowd gs w sl) c = (.next m', ops) ∧ Wd P Q m' (t ++ ops) := by
  obtain ⟨_, hmw, b', hst, m, hq⟩ := hs
  have cne : (c == 0) = false := by simpa using hc
  obtain ⟨gs', r1, r2, r3, r4, r5⟩ := crowd_act (i := c) (c := c) (sl := sl) hgc (.inr rfl) (by rw [cne]; exact hst) hL (Array.getElem?_eq_some_iff.1 hgc).1
  have hT' := t3_sem (fn := b.frame.fn) (pos := b.frame.place) F hc hT
  refine ⟨_, _, r1, h gs' _ _ b' _ (r2.trans hn) hmw hq.status (fun x hx => r4 0 x (Ne.symm hc) hx) (r5.child hc r3 (m := m) ?_) ⟨1, hT'⟩ (hZ.grp w (N + 3) _ rfl 1 hz) (hwg.setSm 1) (set_rg (wt_of hwg (hwg.setSm 1) (.inr (.inr (.inr (.inr ⟨rfl, rfl⟩))))))⟩
  rw [hT'.t1.kc]
  exact hq
/-- Both parts of the child's last way. -/
theorem part4 (F : Far Shun (BoxB N) (Grp N)) (hc : c ≠ 0) (hZ : Zk N Z) (hE : EndsWell P Q Shun N n g1 Z) {kc : Nat} {b : Goroutine} {w : World} (hb : Pr P false (RCd (N + 5)) (Dn N) (Stop4 P N) kc b w) :
    Naps P Q N c n g1 (T4 Shun N c p) (I4 N Z) kc b w ∧ Regs P Q N c n g1 (T4 Shun N c p) (I4 N Z) kc b w := by
  have hI : ∀ w, I4 N Z w → ∃ st, WgAt 103 (N + 3) w st 0 := fun w h => h.2.elim (fun h => ⟨_, h⟩) (fun h => ⟨_, h⟩)
  have nap : ∀ kc b w, Pr P false (RCd (N + 5)) (Dn N) (Stop4 P N) kc b w → Naps P Q N c n g1 (T4 Shun N c p) (I4 N Z) kc b w := by
    intro kc b w hb
    refine seg_naps (seg4 F hc hZ) hI (fun kc gs a x b w sl t q har hao hS hw hn h0 hx hgc hs hL hT => ?_) hb
    obtain ⟨rfl, hd4, hwg⟩ := hs w (fun _ _ => rfl)
    refine sem_step F hc hZ hn hgc hd4 hwg hw.1 hL hT.2 fun gs' t' q' b' w' hn' hmw hbs h0' hL' hT' hz' hw' hrg => ?_
    have hwake : woken P b b' w' x = a := by
      rcases hx with rfl | rfl
      · exact woken_run har
      · unfold Go.Conc.woken
        have : (mayWake P b && b'.status != .blocked && b'.status != .waiting) = true := by
          rw [hmw]
          rcases hbs with e | e <;> rw [e] <;> rfl
        rw [if_pos this]
        obtain ⟨f, cs, s, d, o⟩ := a
        simp only at har hao
        subst har hao
        rfl
    have h0a := h0' x h0
    rw [hwake] at h0a
    exact fin_sem F hc hZ hE (k := 1) (.stop fun w1 h1 => ⟨rfl, hS w1 (hrg.trans (rg_at _ _ h1))⟩) hz' hw' gs' sl t' q' hn' h0a hL' hT'
  refine ⟨nap kc b w hb, seg_regs (seg4 F hc hZ) hI nap (fun k kc gs a b w sl t q ha hw hn h0 hgc hs hL hT => ?_) hb⟩
  obtain ⟨rfl, hd4, hwg⟩ := hs w (fun _ _ => rfl)
  refine sem_step F hc hZ hn hgc hd4 hwg hw.1 hL hT.2 fun gs' t' q' b' w' hn' hmw hbs h0' hL' hT' hz' hw' hrg => ?_
  have ha' := ha.rely (fun _ _ _ h k => h.trans k) hrg
  have h0a := h0' a h0
  rw [ha.woken_eq (fun w d => .at w d) (fun k a w h => .inl h.2.1) hrg] at h0a
  exact fin_sem F hc hZ hE (ha'.anti (fun _ _ r => rg_at _ _ r) fun _ _ _ h => h) hz' hw' gs' sl t' q' hn' h0a hL' hT'
end
end Go.Proofs.Ytdlnlcjmjgbikaa
