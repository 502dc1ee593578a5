/- From the meeting to the close. -/
import Derived.Test.YtdlnlcjmjgbikaaSe
import Derived.Conc.TokenWalk
namespace Go.Proofs.Ytdlnlcjmjgbikaa
open Go Go.Conc
open Go.ConcN (sumTo upd upd_ne upd_same)
open Go.ConcX (WgAt KK stA smA DC0 RCa KCa)

noncomputable section
variable {Q : Machine → Outcome → World → Trace → Prop} {Shun : Loc → Prop} {N c p n : Nat} {Z : World → Prop}
variable {bf : Frame} {cs : List Frame}
/-- Goroutine 0 stands at the close. -/
def StopB (N : Nat) (bf : Frame) (cs : List Frame) (k : Nat) (a : Goroutine) (_ : World) : Prop :=
  k = 0 ∧ ∃ A f, Sl A f ∧ f 7 = .pointer (some ⟨N + 3, 0, none⟩) ∧ f 28 = .chan (some (N + 1)) ∧ a = G (bf.at A (.inRegion ops14 [1] :: k14)) cs
/-- The channel is open, the group counts one. -/
def Io (N : Nat) (w : World) : Prop := w.heap[N + 1]? = some (.chan 0 #[] false 1 1 false) ∧ WgAt 103 (N + 3) w KK 0
/-- The child is parked at its second receive. -/
def ParkB (N : Nat) (Z : World → Prop) (kc : Nat) (b : Goroutine) (w : World) : Prop :=
  w.heap[N + 1]? = some (.chan 0 #[] false 1 1 false) ∧ ∃ x, b = parked x #[rcase (N + 1) (.int .i64 0)] (.recv true) ∧ (∀ w1, RC1 N w w1 → Stop1 N Z kc x w1) ∧ x.offers = none
theorem rc1_chan {w : World} (cap : Nat) (buf : Array Value) (cl : Bool) (s r : Nat) (tm : Bool) : RC1 N w (w.setChan (N + 1) cap buf cl s r tm) :=
  ⟨size_setChan _ _ _ _ _ _ _ _, fun _ h _ => heap_setChan_ne _ _ _ _ _ _ _ (Ne.symm h), rfl, rfl, rfl⟩
theorem wg_chan {w : World} {st sm : Int} (h : WgAt 103 (N + 3) w st sm) (cap : Nat) (buf : Array Value) (cl : Bool) (s r : Nat) (tm : Bool) : WgAt 103 (N + 3) (w.setChan (N + 1) cap buf cl s r tm) st sm :=
  (heap_setChan_ne w cap buf cl s r tm (show N + 1 ≠ N + 3 by omega)).trans h
/-- Goroutine 0 closes the channel. -/
theorem close_step (hk : bf.kind ≠ .early) {A : Act} {f : Nat → Value} (hs : Sl A f) (h28 : f 28 = .chan (some (N + 1))) {w : World} (hw : w.heap[N + 1]? = some (.chan 0 #[] false 1 1 false)) (hq : (Try.prog.funcs[bf.fn]?).any (·.norace) = false) :
    stepG Try.prog true (G (bf.at A (.inRegion ops14 [1] :: k14)) cs) w = .go (G (bf.at A (.inRegion ops14 [] :: k14)) cs) (w.setChan (N + 1) 0 #[] true 1 1 false) (closeEvents (N + 1)) := by
  obtain ⟨o, ats, ho, hop, hg, hd⟩ : ∃ o ats, ops14[1]? = some o ∧ o.op = .call { callee := .builtin .close, args := #[.tmp 28], argTypes := ats } ∧ o.guard = none ∧ o.dst = none := ⟨_, _, rfl, rfl, rfl, rfl⟩
  have h := stepG_close (P := Try.prog) (main := true) (b := bf) (a := A) (kk := k14) (cs := cs) (w := w) (rest := []) ho (by simp [Region.wanted, hg]) hk hop ((hs.eval 28).trans h28) hw hq
  rw [hd] at h
  exact h
theorem close_wakes (A : Act) : mayWake Try.prog (G (bf.at A (.inRegion ops14 [1] :: k14)) cs) = true := by
  obtain ⟨o, ats, ho, hop⟩ : ∃ o ats, ops14[1]? = some o ∧ o.op = .call { callee := .builtin .close, args := #[.tmp 28], argTypes := ats } := ⟨_, _, rfl, rfl⟩
  simp [mayWake, G, Frame.at, ho, hop]
theorem close_e0 : ∀ e ∈ closeEvents (N + 1), E0 (BoxB N) N e := by
  intro e he
  simp only [closeEvents, List.mem_toArray, List.mem_cons, List.not_mem_nil, or_false] at he
  rcases he with rfl | rfl
  · refine ⟨fun x hx => ?_, by simp [MemAct.ofEvent]⟩
    cases hx <;> exact .inr ⟨.inr rfl, by simp⟩
  · refine ⟨fun x hx => ?_, by simp [MemAct.ofEvent]⟩
    cases hx <;> exact .inr ⟨.inr rfl, by simp⟩
theorem io_open {gs : Array Goroutine} {w : World} (hw : w.heap[N + 1]? = some (.chan 0 #[] false 1 1 false)) (hp : partners gs (N + 1) true = []) : ∀ cc ∈ (#[rcase (N + 1) (.int .i64 0)] : Array CommCase), NoWays w gs cc := by
  intro cc hcc
  rw [Array.mem_singleton] at hcc
  subst hcc
  exact ⟨made_recv _ hw, by simp [ways, rcase, hw, hp]⟩
/-- FROM THE MEETING ON, all ends well. -/
theorem partB (F : Far Shun (BoxB N) (Grp N)) (hS : ∀ a : Addr, N ≤ a.block → ¬ Shun (.cell a)) (hc : c ≠ 0) (hZ : Zk N Z) (hk : bf.kind ≠ .early) (hq : (Try.prog.funcs[bf.fn]?).any (·.norace) = false) (hE : ∀ A : Act, A.defers = [] → EndsWell Try.prog Q Shun N n (back bf A ops15 0 [] [] cs) Z)
    {kc : Nat} {b : Goroutine} {w : World} (hb : Pr Try.prog false (RC1 N) (Dc1 Shun N) (Stop1 N Z) kc b w) {k : Nat} {a : Goroutine} (ha : Pr Try.prog true (RG N) (D0w N) (StopB N bf cs) k a w) (hI : Io N w) :
    ∀ gs sl t q, gs.size = n → gs[0]? = some a → gs[c]? = some b → Lv Try.prog c t gs q → T1 Shun (BoxB N) N c p k kc t → Wd Try.prog Q (crowd gs w sl) t := by
  have selfc : ∀ w, RC1 N w w := fun w => by have := RC1.at (N := N) w w.drawn; rwa [at_self] at this
  have cne : (c == 0) = false := by simpa using hc
  have run0 : ∀ k a w, StopB N bf cs k a w → a.status = .running := fun k a w h => by obtain ⟨_, _, _, _, _, _, rfl⟩ := h; rfl
  have run1 : ∀ k b w, Stop1 N Z k b w → b.status = .running := fun k b w h => by obtain ⟨_, _, _, _, _, _, _, _, _, _, _, rfl | rfl⟩ := h <;> rfl
  -- the close
  have shut : ∀ k kc gs a b w sl t q, Io N w → gs.size = n → gs[0]? = some a → gs[c]? = some b → StopB N bf cs k a w →
      (∀ a', mayWake Try.prog a = true → a'.status = .running → Pr Try.prog false (RC1 N) (Dc1 Shun N) (Stop1 N Z) kc (woken Try.prog a a' (w.setChan (N + 1) 0 #[] true 1 1 false) b) (w.setChan (N + 1) 0 #[] true 1 1 false)) → Lv Try.prog c t gs q → T1 Shun (BoxB N) N c p k kc t →
      ∃ m' ops, runT Try.prog (crowd gs w sl) 0 = (.next m', ops) ∧ Wd Try.prog Q m' (t ++ ops) := by
    intro k kc gs a b w sl t q hI hn h0 hgc hs hb hL hT
    obtain ⟨rfl, A, f, hsl, h7, h28, rfl⟩ := hs
    refine step0 hn h0 (close_step hk hsl h28 hI.1 hq) hL (Array.getElem?_eq_some_iff.1 hgc).1 fun gs' hn' h0' hoth hL' => ?_
    have hT' := hT.own0 F hc (fn := (G (bf.at A (.inRegion ops14 [1] :: k14)) cs).frame.fn) (pos := (G (bf.at A (.inRegion ops14 [1] :: k14)) cs).frame.place) close_e0
    rw [show deafBehind 0 (closeEvents (N + 1)) = 0 from rfl] at hT'
    have hwg : WgAt 103 (N + 3) (w.setChan (N + 1) 0 #[] true 1 1 false) KK 0 := wg_chan hI.2 _ _ _ _ _ _
    exact (part1 F hS hc hZ (hE A hsl.defers) (hb _ (close_wakes A) rfl)).gons _ _ gs' sl _ q (g0_pr hsl h7 hk (.inl hwg)) ⟨heap_setChan_self _ hI.1 _ _ _ _ _ _, hwg⟩ hn' h0' (hoth c b hc hgc) hL' hT'
  -- the child parked
  have D2 : Duo2 Try.prog c (T1 Shun (BoxB N) N c p) (Io N) (RG N) (fun w w1 => RC1 N w w1 ∧ w1.heap[N + 1]? = w.heap[N + 1]?) (D0w N) (fun _ _ _ => False) (StopB N bf cs) (ParkB N Z) :=
    ⟨hc, fun w d => .at w d, fun w d => ⟨.at w d, rfl⟩, fun _ _ _ h k => h.trans k, fun _ _ _ h k => ⟨RC1.trans _ _ _ h.1 k.1, k.2.trans h.2⟩, fun w w' es h => by rw [h.1]; exact ⟨selfc w, rfl⟩, fun _ _ _ h => h.elim, fun k kc t w w' es fn pos h d => h.own0 F hc d.2, fun _ _ _ _ _ _ _ _ _ h => h.elim, fun k kc t ops h hs => h.slip hs,
      fun k a w h => .inl (run0 k a w h), fun k b w h => by
        obtain ⟨hw, x, rfl, _, _⟩ := h
        exact .inr ⟨rfl, fun g g' => woken_recv_open g g' hw⟩, fun k a w k' b h _ => .inl (run0 k a w h), fun w d h => h, fun w w' es h d => by rw [d.1]; exact h, fun _ _ _ _ h => h.elim⟩
  have parked_on : ∀ k kc gs a b w sl t q, Io N w → gs.size = n → gs[0]? = some a → gs[c]? = some b → (∀ w1, RC1 N w w1 ∧ w1.heap[N + 1]? = w.heap[N + 1]? → ParkB N Z kc b w1) → Pr Try.prog true (RG N) (D0w N) (StopB N bf cs) k a w → Lv Try.prog c t gs q → T1 Shun (BoxB N) N c p k kc t → Wd Try.prog Q (crowd gs w sl) t := by
    intro k kc gs a b w sl t q hI hn h0 hgc hb ha hL hT
    refine duo2_fin (n := n) D2 (fun k kc gs a b w sl t q hI hn h0 hgc hs har hb hL hT => ?_) (fun k kc gs a b w sl t q hI hn h0 hgc hs hbr ha hL hT => ?_) ha w (.refl w) hI kc b (.stop hb) gs sl t q hn h0 hgc hL hT
    · cases hb with
      | step f u e hr h1 hd hk => exact (hd w ⟨selfc w, rfl⟩).elim
      | stop hb =>
        obtain ⟨hw, x, rfl, h1, hx⟩ := hb w ⟨selfc w, rfl⟩
        refine shut k kc gs a _ w sl t q hI hn h0 hgc (hs w (.refl w)) (fun a' hm hr => ?_) hL hT
        have hwk : woken Try.prog a a' (w.setChan (N + 1) 0 #[] true 1 1 false) (parked x #[rcase (N + 1) (.int .i64 0)] (.recv true)) = { parked x #[rcase (N + 1) (.int .i64 0)] (.recv true) with status := .running } := by
          unfold woken
          rw [if_pos (by simp [hm, hr])]
          exact again_recv_closed (heap_setChan_self _ hI.1 _ _ _ _ _ _)
        rw [hwk]
        refine .stop fun w1 r1 => ?_
        obtain ⟨e0, z1, h4, kv, t6, t7, t8, t9, t10, t11, t12, htr⟩ := h1 w1 (RC1.trans _ _ _ (rc1_chan _ _ _ _ _ _) r1)
        refine ⟨e0, z1, h4, kv, t6, t7, t8, t9, t10, t11, t12, .inr ?_⟩
        rcases htr with rfl | rfl
        · rfl
        · cases hx
    · obtain ⟨_, x, rfl, _⟩ := hs w ⟨selfc w, rfl⟩
      cases hbr
  -- both walk
  have D1 : Duo2 Try.prog c (T1 Shun (BoxB N) N c p) (Io N) (RG N) (RC1 N) (D0w N) (Dc1 Shun N) (StopB N bf cs) (Stop1 N Z) :=
    ⟨hc, fun w d => .at w d, .at, fun _ _ _ h k => h.trans k, .trans, fun w w' es h => by rw [h.1]; exact selfc w, (seg1 (Z := Z) (p := p) F hc 0).lets, fun k kc t w w' es fn pos h d => h.own0 F hc d.2, (seg1 (Z := Z) F hc 0).tc, fun k kc t ops h hs => h.slip hs,
      fun k a w h => .inl (run0 k a w h), fun k a w h => .inl (run1 k a w h), fun k a w k' b h _ => .inl (run0 k a w h), fun w d h => h, fun w w' es h d => by rw [d.1]; exact h,
      fun w w' es h d => ⟨(d.same (N + 1) (by omega) (by omega)).trans h.1, (d.same (N + 3) (by omega) (by omega)).trans h.2⟩⟩
  intro gs sl t q hn h0 hgc hL hT
  refine duo2_fin (n := n) D1 (fun k kc gs a b w sl t q hI hn h0 hgc hs har hb hL hT => ?_) (fun k kc gs a b w sl t q hI hn h0 hgc hs hbr ha hL hT => ?_) ha w (.refl w) hI kc b hb gs sl t q hn h0 hgc hL hT
  · refine shut k kc gs a b w sl t q hI hn h0 hgc (hs w (.refl w)) (fun a' _ _ => ?_) hL hT
    have hrc : RC1 N w (w.setChan (N + 1) 0 #[] true 1 1 false) := rc1_chan _ _ _ _ _ _
    rw [hb.woken_eq .at (fun k a w h => .inl (run1 k a w h)) hrc]
    exact hb.rely .trans hrc
  · have hlt : c < gs.size := (Array.getElem?_eq_some_iff.1 hgc).1
    have hs1 := hs w (selfc w)
    obtain ⟨_, _, _, kv, t6, t7, t8, t9, t10, t11, t12, htr⟩ := hs1
    have har : a.status = .running := ha.runs (fun w => .refl w) fun k a w h => run0 k a w h
    have hr := crowd_waits (P := Try.prog) (sl := sl) (i := c) hgc (by rw [cne]; exact (tries_step htr w).trans (recv_step _ rfl _ _ w)) (io_open hI.1 (no_partner hL h0 (runs_off har) _ _))
    refine ⟨_, _, hr, ?_⟩
    rw [ofEvents_nil, Array.append_empty]
    refine parked_on k kc _ a _ w sl t q hI (by simpa using hn) (by rw [Array.getElem?_setIfInBounds_ne hc]; exact h0) (Array.getElem?_setIfInBounds_self_of_lt hlt) (fun w1 r1 => ?_) ha ?_ hT
    · refine ⟨r1.2.trans hI.1, _, rfl, fun w2 r2 => ?_, rfl⟩
      obtain ⟨e0, z1, h4, _⟩ := hs w2 (RC1.trans _ _ _ r1.1 r2)
      exact ⟨e0, z1, h4, kv, t6, t7, t8, t9, t10, t11, t12, .inl rfl⟩
    · have := hL.swap (u := #[]) (gs' := gs.setIfInBounds c (parked (G ((baseK 44 .deferred).at (tW N kv (.chan (some (N + 1))) t6 t7 t8 t9 t10 t11 t12) (.inRegion opsR [0, 1] :: kR)) [bornF]) #[rcase (N + 1) (.int .i64 0)] (.recv true))) (by simp) (fun j _ hj => Array.getElem?_setIfInBounds_ne (Ne.symm hj)) (by simp)
      rwa [Array.append_empty] at this
end
end Go.Proofs.Ytdlnlcjmjgbikaa
/- From the go statement to the meeting. -/
namespace Go.Proofs.Ytdlnlcjmjgbikaa
open Go Go.Conc
open Go.ConcN (sumTo upd upd_ne upd_same)
open Go.ConcX (WgAt KK stA smA DC0 RCa KCa)

noncomputable section
variable {Q : Machine → Outcome → World → Trace → Prop} {Shun : Loc → Prop} {N c p n : Nat} {ka : Addr} {kv : Value}
variable {bf : Frame} {cs : List Frame}
/-- What both read until they meet. -/
def BoxA (N : Nat) (ka : Addr) (l : Loc) : Prop := l = .cell ⟨N + 2, 0, none⟩ ∨ l = .cell ka
def D0A (N : Nat) (ka : Addr) (w w' : World) (es : Array Event) : Prop := w' = w ∧ ∀ e ∈ es, E0 (BoxA N ka) N e
def DcA (Shun : Loc → Prop) (N : Nat) (ka : Addr) (w w' : World) (es : Array Event) : Prop := w' = w ∧ ∀ e ∈ es, EC Shun (BoxA N ka) N e
/-- The worker at its first receive. -/
abbrev gRecv (N : Nat) : Goroutine := G ((baseK 44 .deferred).at (tW N undef (.chan (some (N + 1))) undef undef undef undef undef undef undef) (.inRegion opsR [0, 1] :: kR)) [bornF]
/-- Behind it. -/
abbrev gGot (N : Nat) (kv : Value) : Goroutine := G ((baseK 44 .deferred).at (tW N undef (.chan (some (N + 1))) (.tuple #[kv, .bool true]) undef undef undef undef undef undef) (.inRegion opsR [1] :: kR)) [bornF]
abbrev gSend (bf : Frame) (cs : List Frame) (A : Act) : Goroutine := G (bf.at A (.inRegion ops12 [2] :: k12)) cs
abbrev gSent (bf : Frame) (cs : List Frame) (A : Act) : Goroutine := G (bf.at A (.inRegion ops12 [] :: k12)) cs
def SA0 (N : Nat) (kv : Value) (bf : Frame) (cs : List Frame) (k : Nat) (a : Goroutine) (_ : World) : Prop := k = 0 ∧ ∃ A f, Sl A f ∧ Pm N kv f ∧ a = gSend bf cs A
def SAc (N : Nat) (k : Nat) (b : Goroutine) (_ : World) : Prop := k = 0 ∧ b = gRecv N
/-- The channel is new. -/
def New1 (N : Nat) (w : World) : Prop := w.heap[N + 1]? = some (.chan 0 #[] false 0 0 false)
def PA0 (N : Nat) (kv : Value) (bf : Frame) (cs : List Frame) (k : Nat) (a : Goroutine) (w : World) : Prop := k = 0 ∧ New1 N w ∧ ∃ A f, Sl A f ∧ Pm N kv f ∧ a = parked (gSend bf cs A) #[scase (N + 1) kv (.tuple #[])] .send
def PAc (N : Nat) (k : Nat) (b : Goroutine) (w : World) : Prop := k = 0 ∧ New1 N w ∧ b = parked (gRecv N) #[rcase (N + 1) (.int .i64 0)] (.recv true)
theorem part_at {P : Program} {t : Trace} {gs : Array Goroutine} {q : Nat → Nat} (hL : Lv P c t gs q) {i j : Nat} (hij : (i = 0 ∧ j = c) ∨ (i = c ∧ j = 0)) (hne : j ≠ i) {g : Goroutine} (hg : gs[j]? = some g) (r : Nat) (s : Bool) :
    partners (gs.setIfInBounds i ph) r s = (offersAt g r s).map fun k => (j, k) := by
  refine partners_one (stand_get hne hg) fun k x hk hx => ?_
  rcases getElem?_stand gs i k x hx with ⟨_, rfl⟩ | ⟨hki, hx⟩
  · exact offersAt_ph r s
  · have hq := hL.old k x (by omega) (by omega) hx
    exact offersAt_of_not_blocked (by rcases hq.status with h | h <;> rw [h] <;> simp) r s
theorem send0 (hk : bf.kind ≠ .early) {A : Act} {f : Nat → Value} (hs : Sl A f) (hp : Pm N kv f) (w : World) : stepG Try.prog true (gSend bf cs A) w = .comm (gSend bf cs A) #[scase (N + 1) kv (.tuple #[])] true .send w #[] := by
  obtain ⟨o, ho, hop, hg⟩ : ∃ o, ops12[2]? = some o ∧ o.op = .send (.tmp 25) (.tmp 26) ∧ o.guard = none := ⟨_, rfl, rfl, rfl⟩
  exact send_step (i := 2) (rest := []) hk ho hg hop ((hs.eval 25).trans hp.ch) ((hs.eval 26).trans hp.key) w
theorem served0 (A : Act) : Go.Conc.served (gSend bf cs A) undef = gSent bf cs A := by
  obtain ⟨o, ho, hd⟩ : ∃ o, ops12[2]? = some o ∧ o.dst = none := ⟨_, rfl, rfl⟩
  simp only [Go.Conc.served, gSend, G]
  rw [Frame.finish_at, ho]
  simp [hd, Act.put]
theorem servedC : Go.Conc.served (gRecv N) (recvd true kv true) = gGot N kv := rfl
theorem meet_t1 {Box : Loc → Prop} {t : Trace} (hT : T1 Shun Box N c p 0 0 t) {fn fn' fn2 fn3 : FuncId} {s1 s2 s3 s4 : String} (Box' : Loc → Prop) :
    ∃ p', T1 Shun Box' N c p' 0 0 (t ++ #[⟨0, fn, s1, .send (N + 1) 0⟩, ⟨c, fn', s2, .recv (N + 1) 0 0⟩, ⟨0, fn2, s3, .sendDone (N + 1) 0⟩, ⟨c, fn3, s4, .recvDone (N + 1) 0⟩]) := by
  have hu : ∀ op ∈ (#[⟨0, fn, s1, .send (N + 1) 0⟩, ⟨c, fn', s2, .recv (N + 1) 0 0⟩, ⟨0, fn2, s3, .sendDone (N + 1) 0⟩, ⟨c, fn3, s4, .recvDone (N + 1) 0⟩] : Trace), op.act ≠ .mark .disable ∧ op.act ≠ .mark .enable := by
    intro op hop
    simp only [List.mem_toArray, List.mem_cons, List.not_mem_nil, or_false] at hop
    rcases hop with rfl | rfl | rfl | rfl <;> simp
  exact ⟨_, hT.co.meet hT.k0 hT.kc ⟨rfl, rfl⟩ ⟨rfl, rfl⟩ ⟨rfl, rfl⟩ ⟨rfl, rfl⟩, (Go.ConcX.Deaf_keep t 0 _ hu).trans hT.k0, (Go.ConcX.Deaf_keep t c _ hu).trans hT.kc⟩
/-- FROM THE go STATEMENT ON: they meet. -/
theorem partA (F : Far Shun (BoxA N ka) (Grp N)) (hc : c ≠ 0) (hk : bf.kind ≠ .early) {w0 : World} (hI : New1 N w0)
    (hB : ∀ p A f gs w sl t q, Sl A f → Pm N kv f → AtRel w0 w → gs.size = n → gs[0]? = some (gSent bf cs A) → gs[c]? = some (gGot N kv) → Lv Try.prog c t gs q → T1 Shun (BoxB N) N c p 0 0 t → Wd Try.prog Q (crowd gs (w.setChan (N + 1) 0 #[] false 1 1 false) sl) t)
    {k kc : Nat} {a b : Goroutine} (ha : Pr Try.prog true AtRel (D0A N ka) (SA0 N kv bf cs) k a w0) (hb : Pr Try.prog false AtRel (DcA Shun N ka) (SAc N) kc b w0) :
    ∀ gs sl t q, gs.size = n → gs[0]? = some a → gs[c]? = some b → Lv Try.prog c t gs q → T1 Shun (BoxA N ka) N c p k kc t → Wd Try.prog Q (crowd gs w0 sl) t := by
  have cne : (c == 0) = false := by simpa using hc
  have atd : ∀ (w : World) d, AtRel w (w.at d) := fun w d => ⟨d, rfl⟩
  have newD : ∀ {w w1 : World}, New1 N w → AtRel w w1 → New1 N w1 := fun h r => by obtain ⟨d, rfl⟩ := r; exact h
  have ts : ∀ k kc t ops, T1 Shun (BoxA N ka) N c p k kc t → Slip c ops → T1 Shun (BoxA N ka) N c p k kc (t ++ ops) := fun k kc t ops h hs => h.slip hs
  have iat : ∀ w d, AtRel w0 w → AtRel w0 (w.at d) := fun w d h => atRel_trans _ _ _ h (atd w d)
  have run0 : ∀ k a w, SA0 N kv bf cs k a w → a.status = .running := fun k a w h => by obtain ⟨_, _, _, _, _, rfl⟩ := h; rfl
  have runc : ∀ k a w, SAc N k a w → a.status = .running := fun k a w h => by obtain ⟨_, rfl⟩ := h; rfl
  -- the two meet
  have meets : ∀ (gs gs' : Array Goroutine) A f w sl t q (s1 s2 s3 s4 : String) (f1 f2 f3 f4 : FuncId), Sl A f → Pm N kv f → AtRel w0 w → gs.size = n → gs'.size = gs.size → (∀ j, j ≠ 0 → j ≠ c → gs'[j]? = gs[j]?) → gs'[0]? = some (gSent bf cs A) → gs'[c]? = some (gGot N kv) → Lv Try.prog c t gs q → T1 Shun (BoxA N ka) N c p 0 0 t →
      Wd Try.prog Q (crowd gs' (w.setChan (N + 1) 0 #[] false 1 1 false) sl) (t ++ #[⟨0, f1, s1, .send (N + 1) 0⟩, ⟨c, f2, s2, .recv (N + 1) 0 0⟩, ⟨0, f3, s3, .sendDone (N + 1) 0⟩, ⟨c, f4, s4, .recvDone (N + 1) 0⟩]) := by
    intro gs gs' A f w sl t q s1 s2 s3 s4 f1 f2 f3 f4 hs hp hw hn hsz hoth h0 hcc hL hT
    obtain ⟨p', hT'⟩ := meet_t1 hT (fn := f1) (fn' := f2) (fn2 := f3) (fn3 := f4) (s1 := s1) (s2 := s2) (s3 := s3) (s4 := s4) (BoxB N)
    refine hB p' A f gs' w sl _ q hs hp hw (hsz.trans hn) h0 hcc (hL.swap hsz hoth fun op hop => ?_) hT'
    simp only [List.mem_toArray, List.mem_cons, List.not_mem_nil, or_false] at hop
    rcases hop with rfl | rfl | rfl | rfl <;> simp
  -- goroutine 0 sends to whom is parked
  have sendTo : ∀ gs A f w sl t q, Sl A f → Pm N kv f → AtRel w0 w → gs.size = n → gs[0]? = some (gSend bf cs A) → gs[c]? = some (parked (gRecv N) #[rcase (N + 1) (.int .i64 0)] (.recv true)) → Lv Try.prog c t gs q → T1 Shun (BoxA N ka) N c p 0 0 t →
      ∃ m' ops, runT Try.prog (crowd gs w sl) 0 = (.next m', ops) ∧ Wd Try.prog Q m' (t ++ ops) := by
    intro gs A f w sl t q hs hp hw hn h0 hgc hL hT
    have hnew : w.heap[N + 1]? = some (.chan 0 #[] false 0 0 false) := newD hI hw
    have hlt0 : 0 < gs.size := (Array.getElem?_eq_some_iff.1 h0).1
    have hltc : c < gs.size := (Array.getElem?_eq_some_iff.1 hgc).1
    have hr := crowd_send_meets (P := Try.prog) (sl := sl) (i := 0) h0 (send0 hk hs hp w) hnew hc hgc (by rw [part_at hL (.inl ⟨rfl, rfl⟩) hc hgc, offersAt_parked_recv]; simp)
    refine ⟨_, _, hr, ?_⟩
    rw [ofEvents_nil, Array.empty_append]
    refine meets gs _ A f w sl t q _ _ _ _ _ _ _ _ hs hp hw hn (by simp) (fun j hj0 hjc => ?_) ?_ ?_ hL hT
    · rw [Array.getElem?_setIfInBounds_ne (Ne.symm hj0), Array.getElem?_setIfInBounds_ne (Ne.symm hjc)]
    · rw [Array.getElem?_setIfInBounds_self_of_lt (by simpa using hlt0), finishComm_send, served0]
    · rw [Array.getElem?_setIfInBounds_ne (Ne.symm hc), Array.getElem?_setIfInBounds_self_of_lt hltc, finishComm_recv, servedC]
  -- the child receives from goroutine 0, which is parked
  have recvFrom : ∀ gs A f w sl t q, Sl A f → Pm N kv f → AtRel w0 w → gs.size = n → gs[c]? = some (gRecv N) → gs[0]? = some (parked (gSend bf cs A) #[scase (N + 1) kv (.tuple #[])] .send) → Lv Try.prog c t gs q → T1 Shun (BoxA N ka) N c p 0 0 t →
      ∃ m' ops, runT Try.prog (crowd gs w sl) c = (.next m', ops) ∧ Wd Try.prog Q m' (t ++ ops) := by
    intro gs A f w sl t q hs hp hw hn hgc h0 hL hT
    have hnew : w.heap[N + 1]? = some (.chan 0 #[] false 0 0 false) := newD hI hw
    have hlt0 : 0 < gs.size := (Array.getElem?_eq_some_iff.1 h0).1
    have hltc : c < gs.size := (Array.getElem?_eq_some_iff.1 hgc).1
    have hr := crowd_recv_meets (P := Try.prog) (sl := sl) (i := c) hgc (by rw [cne]; exact recv_step _ rfl _ _ w) hnew (Ne.symm hc) h0 (by rw [part_at hL (.inr ⟨rfl, rfl⟩) (Ne.symm hc) h0, offersAt_parked_send]; simp)
    refine ⟨_, _, hr, ?_⟩
    rw [ofEvents_nil, Array.empty_append]
    refine meets gs _ A f w sl t q _ _ _ _ _ _ _ _ hs hp hw hn (by simp) (fun j hj0 hjc => ?_) ?_ ?_ hL hT
    · rw [Array.getElem?_setIfInBounds_ne (Ne.symm hjc), Array.getElem?_setIfInBounds_ne (Ne.symm hj0)]
    · rw [Array.getElem?_setIfInBounds_ne hc, Array.getElem?_setIfInBounds_self_of_lt hlt0, finishComm_send, served0]
    · rw [Array.getElem?_setIfInBounds_self_of_lt (by simpa using hltc), finishComm_recv, servedC]
  have swap1 : ∀ {gs : Array Goroutine} {t : Trace} {q : Nat → Nat} (i : Nat) (x : Goroutine), (i = 0 ∨ i = c) → Lv Try.prog c t gs q → Lv Try.prog c (t ++ #[]) (gs.setIfInBounds i x) q := by
    intro gs t q i x hi hL
    refine hL.swap (by simp) (fun j h0 hjc => Array.getElem?_setIfInBounds_ne ?_) (by simp)
    rcases hi with rfl | rfl
    · exact Ne.symm h0
    · exact Ne.symm hjc
  -- goroutine 0 is parked
  have wait0 : ∀ kc gs A f b w sl t q, Sl A f → Pm N kv f → AtRel w0 w → gs.size = n → gs[0]? = some (parked (gSend bf cs A) #[scase (N + 1) kv (.tuple #[])] .send) → gs[c]? = some b → Pr Try.prog false AtRel (DcA Shun N ka) (SAc N) kc b w → Lv Try.prog c t gs q → T1 Shun (BoxA N ka) N c p 0 kc t → Wd Try.prog Q (crowd gs w sl) t := by
    intro kc gs A f b w sl t q hs hp hw hn h0 hgc hb hL hT
    have D : Duo2 Try.prog c (T1 Shun (BoxA N ka) N c p) (AtRel w0) AtRel AtRel (fun _ _ _ => False) (DcA Shun N ka) (PA0 N kv bf cs) (SAc N) :=
      ⟨hc, atd, atd, atRel_trans, atRel_trans, fun _ _ _ h => h.elim, fun w w' es h => by rw [h.1]; exact atRel_refl w, fun _ _ _ _ _ _ _ _ _ h => h.elim, fun k kc t w w' es fn pos h d => h.ownC F hc d.2, ts,
        fun k a w h => by
          obtain ⟨_, hw, A, f, _, _, rfl⟩ := h
          exact .inr ⟨rfl, fun g g' => woken_send_open g g' hw⟩, fun k a w h => .inl (runc k a w h), fun k a w k' b _ h => .inr (runc k' b w h), iat, fun _ _ _ _ h => h.elim, fun w w' es h d => by rw [d.1]; exact h⟩
    refine duo2_fin (n := n) D (fun k kc gs a b w sl t q hI hn h0 hgc hs har hb hL hT => ?_) (fun k kc gs a b w sl t q hI hn h0 hgc hs hbr ha hL hT => ?_) (.stop fun w1 r1 => ⟨rfl, newD (newD hI hw) r1, A, f, hs, hp, rfl⟩) w (atRel_refl w) hw kc b hb gs sl t q hn h0 hgc hL hT
    · obtain ⟨_, _, A, f, _, _, rfl⟩ := hs w (atRel_refl w)
      cases har
    · obtain ⟨rfl, rfl⟩ := hs w (atRel_refl w)
      cases ha with
      | step f u e hr h1 hd hk => exact (hd w (atRel_refl w)).elim
      | stop h =>
        obtain ⟨rfl, _, A, f, hsl, hpm, rfl⟩ := h w (atRel_refl w)
        exact recvFrom gs A f w sl t q hsl hpm hI hn hgc h0 hL hT
  -- the child is parked
  have waitC : ∀ k gs a w sl t q, AtRel w0 w → gs.size = n → gs[0]? = some a → gs[c]? = some (parked (gRecv N) #[rcase (N + 1) (.int .i64 0)] (.recv true)) → Pr Try.prog true AtRel (D0A N ka) (SA0 N kv bf cs) k a w → Lv Try.prog c t gs q → T1 Shun (BoxA N ka) N c p k 0 t → Wd Try.prog Q (crowd gs w sl) t := by
    intro k gs a w sl t q hw hn h0 hgc ha hL hT
    have D : Duo2 Try.prog c (T1 Shun (BoxA N ka) N c p) (AtRel w0) AtRel AtRel (D0A N ka) (fun _ _ _ => False) (SA0 N kv bf cs) (PAc N) :=
      ⟨hc, atd, atd, atRel_trans, atRel_trans, fun w w' es h => by rw [h.1]; exact atRel_refl w, fun _ _ _ h => h.elim, fun k kc t w w' es fn pos h d => h.own0 F hc d.2, fun _ _ _ _ _ _ _ _ _ h => h.elim, ts,
        fun k a w h => .inl (run0 k a w h), fun k a w h => by
          obtain ⟨_, hw, rfl⟩ := h
          exact .inr ⟨rfl, fun g g' => woken_recv_open g g' hw⟩, fun k a w k' b h _ => .inl (run0 k a w h), iat, fun w w' es h d => by rw [d.1]; exact h, fun _ _ _ _ h => h.elim⟩
    refine duo2_fin (n := n) D (fun k kc gs a b w sl t q hI hn h0 hgc hs har hb hL hT => ?_) (fun k kc gs a b w sl t q hI hn h0 hgc hs hbr ha hL hT => ?_) ha w (atRel_refl w) hw 0 _ (.stop fun w1 r1 => ⟨rfl, newD (newD hI hw) r1, rfl⟩) gs sl t q hn h0 hgc hL hT
    · obtain ⟨rfl, A, f, hsl, hpm, rfl⟩ := hs w (atRel_refl w)
      cases hb with
      | step f u e hr h1 hd hk => exact (hd w (atRel_refl w)).elim
      | stop h =>
        obtain ⟨rfl, _, rfl⟩ := h w (atRel_refl w)
        exact sendTo gs A f w sl t q hsl hpm hI hn h0 hgc hL hT
    · obtain ⟨_, _, rfl⟩ := hs w (atRel_refl w)
      cases hbr
  have D : Duo2 Try.prog c (T1 Shun (BoxA N ka) N c p) (AtRel w0) AtRel AtRel (D0A N ka) (DcA Shun N ka) (SA0 N kv bf cs) (SAc N) :=
    ⟨hc, atd, atd, atRel_trans, atRel_trans, fun w w' es h => by rw [h.1]; exact atRel_refl w, fun w w' es h => by rw [h.1]; exact atRel_refl w, fun k kc t w w' es fn pos h d => h.own0 F hc d.2, fun k kc t w w' es fn pos h d => h.ownC F hc d.2, ts,
      fun k a w h => .inl (run0 k a w h), fun k a w h => .inl (runc k a w h), fun k a w k' b h _ => .inl (run0 k a w h), iat, fun w w' es h d => by rw [d.1]; exact h, fun w w' es h d => by rw [d.1]; exact h⟩
  intro gs sl t q hn h0 hgc hL hT
  refine duo2_fin (n := n) D (fun k kc gs a b w sl t q hI hn h0 hgc hs har hb hL hT => ?_) (fun k kc gs a b w sl t q hI hn h0 hgc hs hbr ha hL hT => ?_) ha w0 (atRel_refl w0) (atRel_refl w0) kc b hb gs sl t q hn h0 hgc hL hT
  · obtain ⟨rfl, A, f, hsl, hpm, rfl⟩ := hs w (atRel_refl w)
    have hnew : w.heap[N + 1]? = some (.chan 0 #[] false 0 0 false) := newD ‹New1 N w0› hI
    have hbr : b.status = .running := hb.runs atRel_refl runc
    have hp : partners (gs.setIfInBounds 0 ph) (N + 1) false = [] := by rw [part_at hL (.inl ⟨rfl, rfl⟩) hc hgc, runs_off hbr]; rfl
    have hr := crowd_waits (P := Try.prog) (sl := sl) (i := 0) h0 (send0 hk hsl hpm w) (fun cc hcc => by
      rw [Array.mem_singleton] at hcc
      subst hcc
      exact ⟨made_send _ _ hnew, by simp [ways, scase, hnew, hp]⟩)
    refine ⟨_, _, hr, ?_⟩
    rw [ofEvents_nil]
    refine wait0 kc _ A f b w sl _ q hsl hpm hI (by simpa using hn) (Array.getElem?_setIfInBounds_self_of_lt (Array.getElem?_eq_some_iff.1 h0).1) (by rw [Array.getElem?_setIfInBounds_ne (Ne.symm hc)]; exact hgc) hb (swap1 0 _ (.inl rfl) hL) (by rw [Array.append_empty]; exact hT)
  · obtain ⟨rfl, rfl⟩ := hs w (atRel_refl w)
    have hnew : w.heap[N + 1]? = some (.chan 0 #[] false 0 0 false) := newD ‹New1 N w0› hI
    have har : a.status = .running := ha.runs atRel_refl run0
    have hp : partners (gs.setIfInBounds c ph) (N + 1) true = [] := by rw [part_at hL (.inr ⟨rfl, rfl⟩) (Ne.symm hc) h0, runs_off har]; rfl
    have hr := crowd_waits (P := Try.prog) (sl := sl) (i := c) hgc (by rw [cne]; exact recv_step _ rfl _ _ w) (fun cc hcc => by
      rw [Array.mem_singleton] at hcc
      subst hcc
      exact ⟨made_recv _ hnew, by simp [ways, rcase, hnew, hp]⟩)
    refine ⟨_, _, hr, ?_⟩
    rw [ofEvents_nil]
    refine waitC k _ a w sl _ q hI (by simpa using hn) (by rw [Array.getElem?_setIfInBounds_ne hc]; exact h0) (Array.getElem?_setIfInBounds_self_of_lt (Array.getElem?_eq_some_iff.1 hgc).1) ha (swap1 c _ (.inr rfl) hL) (by rw [Array.append_empty]; exact hT)
end
end Go.Proofs.Ytdlnlcjmjgbikaa
