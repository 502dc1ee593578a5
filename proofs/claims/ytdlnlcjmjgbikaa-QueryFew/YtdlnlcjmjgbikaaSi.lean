/- The go statement. -/
import Derived.Test.YtdlnlcjmjgbikaaSg
namespace Go.Proofs.Ytdlnlcjmjgbikaa
open Go Go.Conc
open Go.ConcN (sumTo upd upd_ne upd_same)
open Go.ConcX (WgAt KK stA smA DC0 RCa KCa)

noncomputable section
variable {Q : Machine → Outcome → World → Trace → Prop} {Shun : Loc → Prop} {N c p n cap : Nat} {ka : Addr} {kv : Value}
variable {bf : Frame} {cs : List Frame} {Stop : Nat → Goroutine → World → Prop} {k : Nat}
abbrev boxes (N : Nat) : Array Value := #[.pointer (some ⟨N + 3, 0, none⟩), .pointer (some ⟨N + 2, 0, none⟩), .pointer (some ⟨N, 0, none⟩), .pointer (some ⟨N + 4, 0, none⟩)]
/-- From Add to the go statement. -/
theorem add_to_go {A : Act} {f : Nat → Value} (hs : Sl A f) (hp : Pl N ka cap f) (hk : bf.kind ≠ .early) {w : World}
    (h : ∀ A f, Sl A f → Pl N ka cap f → f 17 = .func (.func 44) #[] (boxes N) → Pr Try.prog true AtRel (D1 Shun) Stop k (G (bf.at A (.inRegion ops7 [1] :: k7)) cs) w) :
    Pr Try.prog true AtRel (D1 Shun) Stop k (G (bf.at A (.inRegion ops6 [] :: k6)) cs) w := by
  refine At.ctl rfl (fun _ => stepG_region_end) ?_
  refine At.ctl rfl (fun _ => stepG_region) ?_
  obtain ⟨o, ho, hop, hg, hd⟩ : ∃ o, ops7[0]? = some o ∧ o.op = .makeFunc (.func 44) #[] #[.tmp 7, .tmp 6, .tmp 3, .tmp 8] ∧ o.guard = none ∧ o.dst = some 17 := ⟨_, rfl, rfl, rfl, rfl⟩
  have hv : #[Operand.tmp 7, .tmp 6, .tmp 3, .tmp 8].map A.eval = boxes N := by
    have e7 := (hs.eval 7).trans hp.crew
    have e6 := (hs.eval 6).trans hp.work
    have e3 := (hs.eval 3).trans hp.rbox
    have e8 := (hs.eval 8).trans hp.wbox
    simp only [List.map_toArray, List.map_cons, List.map_nil, e7, e6, e3, e8]
  refine av (i := 0) (rest := [1]) hs (.func (.func 44) #[] (boxes N)) w hk ho hg hd (by decide) (fun dr => ?_) (fun dr => ?_) fun A' s' => h A' _ s' (hp.up 17 _ (by decide)) (by simp)
  · obtain ⟨o1, o2, o3, o4, o5, o6⟩ := o
    simp only at hop
    subst hop
    simp only [execOp, hv]
    simp [Instr.makeFunc, go_sem]
  · obtain ⟨o1, o2, o3, o4, o5, o6⟩ := o
    simp only at hop
    subst hop
    simp only [execOp, hv]
    simp [Instr.makeFunc, go_sem]
/-- The go statement. -/
theorem go_step {A : Act} {f : Nat → Value} (hs : Sl A f) (h17 : f 17 = .func (.func 44) #[] (boxes N)) (hk : bf.kind ≠ .early) (w : World) :
    stepG Try.prog true (G (bf.at A (.inRegion ops7 [1] :: k7)) cs) w = .spawn (G (bf.at A (.inRegion ops7 [] :: k7)) cs) (born Try.prog (dGo N)) w #[] := by
  obtain ⟨o, ho, hop, hg, hd⟩ : ∃ o, ops7[1]? = some o ∧ o.op = .go { callee := .value (.tmp 17), args := #[], argTypes := #[] } ∧ o.guard = none ∧ o.dst = none := ⟨_, rfl, rfl, rfl, rfl⟩
  have hx : execOp A.eval o = (Deferred.ofValue (.func (.func 44) #[] (boxes N)) #[] >>= fun d => pure (Next.spawn d)) := by
    unfold execOp
    rw [hop]
    simp only [resolve]
    rw [(hs.eval 17).trans h17, show Array.map A.eval #[] = #[] by simp]
  have h := stepG_spawn (P := Try.prog) (main := true) (b := bf) (a := A) (k := k7) (cs := cs) (w := w) (rest := []) (d := dGo N) (w' := w) (f := .func 44) (c := boxes N) ho (by simp [Region.wanted, hg]) hk (by rw [hx]; simp [Deferred.ofValue, go_sem, dGo, boxes]) rfl
  rw [hd] at h
  refine h.trans ?_
  unfold listed
  rw [hx, show ((Deferred.ofValue (.func (.func 44) #[] (boxes N)) #[] >>= fun d => pure (Next.spawn d)) : Sem Next).events Try.prog w #[] = #[] by simp [Deferred.ofValue, go_sem], Go.Conc.seen_none]
  rfl
end
end Go.Proofs.Ytdlnlcjmjgbikaa
/- A call of round.serve, whole. -/
namespace Go.Proofs.Ytdlnlcjmjgbikaa
open Go Go.Conc
open Go.ConcN (sumTo upd upd_ne upd_same)
open Go.ConcX (WgAt KK stA smA DC0 RCa KCa)

noncomputable section
theorem alloc_heap (w : World) (o : Obj) : (w.alloc o).heap = w.heap.push o := rfl
theorem get_push (h : Array Obj) (o : Obj) (b : Nat) : (h.push o)[b]? = if b = h.size then some o else h[b]? := Array.getElem?_push ..
/-- The world at the go statement. -/
def goW (w : World) (rp : Addr) : World := (five w rp).setCell (stA (w.heap.size + 3)) (.int .u64 KK)
theorem five_wg (w : World) (rp : Addr) : WgAt 103 (w.heap.size + 3) (five w rp) 0 0 := by
  unfold WgAt five
  simp only [alloc_heap, get_push, Array.size_push]
  simp
  rfl
structure Five (w : World) (rp : Addr) (W : World) : Prop where
  size : W.heap.size = w.heap.size + 5
  low : ∀ b, b < w.heap.size → W.heap[b]? = w.heap[b]?
  rbox : W.heap[w.heap.size]? = some (.cells #[.pointer (some rp)] 75)
  ch : New1 w.heap.size W
  work : W.heap[w.heap.size + 2]? = some (.cells #[.chan (some (w.heap.size + 1))] 98)
  wg : WgAt 103 (w.heap.size + 3) W KK 0
  wbox : W.heap[w.heap.size + 4]? = some (.cells #[.int .i64 0] 3)
  os : W.os = w.os
  output : W.output = w.output
theorem goW_five (w : World) (rp : Addr) : Five w rp (goW w rp) := by
  obtain ⟨o, e, _⟩ := setCell_put (five w rp) (stA (w.heap.size + 3)) (.int .u64 KK)
  have ot : ∀ b, w.heap.size + 3 ≠ b → (goW w rp).heap[b]? = (five w rp).heap[b]? := fun b hb => setCell_other (five w rp) (w.heap.size + 3) 0 b _ (Ne.symm hb)
  refine ⟨?_, fun b hb => (ot b (by omega)).trans ?_, (ot _ (by omega)).trans ?_, (ot _ (by omega)).trans ?_, (ot _ (by omega)).trans ?_, (five_wg w rp).setSt _, (ot _ (by omega)).trans ?_, ?_, ?_⟩
  · unfold goW five at *; rw [e]; simp only [alloc_heap, Array.size_setIfInBounds, Array.size_push]
  · unfold five
    simp only [alloc_heap, get_push, Array.size_push]
    rw [if_neg (by omega), if_neg (by omega), if_neg (by omega), if_neg (by omega), if_neg (by omega)]
  · unfold five
    simp only [alloc_heap, get_push, Array.size_push]
    simp
    rw [if_neg (by omega), if_neg (by omega), if_neg (by omega)]
  · unfold five
    simp only [alloc_heap, get_push, Array.size_push]
    simp
  · unfold five
    simp only [alloc_heap, get_push, Array.size_push]
    simp
  · unfold five
    simp only [alloc_heap, get_push, Array.size_push]
    simp
  · unfold goW; rw [e]; rfl
  · unfold goW; rw [e]; rfl
theorem rel_five {X : Nat → Prop} {v w : World} {rp : Addr} (h : Rel X v w) : Rel (X5 X w.heap.size) (blk (blk (blk (blk (blk v))))) (goW w rp) := by
  have F := goW_five w rp
  have hs := h.size
  have blow : ∀ b, b < v.heap.size → (blk (blk (blk (blk (blk v))))).heap[b]? = v.heap[b]? := fun b hb => by
    simp only [blk, alloc_heap, get_push, Array.size_push]
    rw [if_neg (by omega), if_neg (by omega), if_neg (by omega), if_neg (by omega), if_neg (by omega)]
  have bsz : (blk (blk (blk (blk (blk v))))).heap.size = v.heap.size + 5 := by simp only [blk, alloc_heap, Array.size_push]
  refine ⟨by rw [bsz, F.size, hs], fun r hr => ?_, fun r hr => ?_, h.os.trans F.os.symm, h.output.trans F.output.symm⟩
  · by_cases hl : r < w.heap.size
    · rw [blow r (by omega), F.low r hl]
      exact h.same r fun hx => hr (.inl hx)
    · have : w.heap.size + 5 ≤ r := by
        refine Classical.byContradiction fun hn => hr (.inr ⟨by omega, by omega⟩)
      rw [Array.getElem?_eq_none (by rw [bsz]; omega), Array.getElem?_eq_none (by rw [F.size]; omega)]
  · rcases hr with hx | ⟨h1, h2⟩
    · have hp := h.pois r hx
      rw [blow r (Array.getElem?_eq_some_iff.1 hp).1]
      exact hp
    · have : r = v.heap.size ∨ r = v.heap.size + 1 ∨ r = v.heap.size + 2 ∨ r = v.heap.size + 3 ∨ r = v.heap.size + 4 := by omega
      simp only [blk, alloc_heap, get_push, Array.size_push]
      rcases this with rfl | rfl | rfl | rfl | rfl <;> simp
end
end Go.Proofs.Ytdlnlcjmjgbikaa
/- A call of round.serve, whole. -/
namespace Go.Proofs.Ytdlnlcjmjgbikaa
open Go Go.Conc
open Go.ConcN (sumTo upd upd_ne upd_same)
open Go.ConcX (WgAt KK stA smA DC0 RCa KCa)

noncomputable section
variable {Q : Machine → Outcome → World → Trace → Prop} {Shun : Loc → Prop} {X : Nat → Prop} {n : Nat}
variable {base : List Frame} {R : Frame → List Frame → World → Prop} {X0 : Nat → Prop} {W0 : World}
theorem serve_own {A : Act} {f : Nat → Value} (hs : Sl A f) {kd : CallKind} (hk : kd = .normal ∨ kd = .deferred) : Own Sq.prog sts ((baseK 27 kd).at A [.inRegion ops4 [0]]) := by
  obtain ⟨fn, hf, hb, hn, hr⟩ := serve_at
  refine ⟨rfl, ⟨fn, fn, hf, hf, rfl⟩, rfl, rfl, ?_, rfl, rfl, hk, rfl, rfl, .cons ?_ .nil⟩
  · intro d hd
    rw [show ((baseK 27 kd).at A [.inRegion ops4 [0]]).defers = A.defers from rfl, hs.defers] at hd
    cases hd
  · have := ItR.inRegion (P := Sq.prog) (St := sts) ops4 [0] (by kernel_rfl)
    rwa [show ops4.map (cutOp Sq.prog) = ops4 by kernel_rfl] at this
theorem far_A {N : Nat} {a : Addr} (hS : ShX Shun X) (hXN : ∀ r, X r → r < N) (ha : ¬ X a.block) (haN : a.block < N) : Far Shun (BoxA N a) (Grp N) := by
  refine ⟨fun l hl hg => ?_, fun l hs hl => ?_, fun l hs hg => ?_⟩
  · rcases hl with rfl | rfl <;> rcases hg with ⟨b, e, hb⟩ | e <;> cases e
    · simp only at hb; omega
    · omega
  · rcases hl with rfl | rfl
    · exact sx_free hS hXN _ (by simp only; omega) hs
    · rcases hS _ hs with ⟨b, e, hb⟩ | ⟨r, e, _⟩ <;> cases e
      exact ha hb
  · rcases hg with ⟨b, rfl, hb⟩ | rfl
    · exact sx_free hS hXN _ (by omega) hs
    · rcases hS _ hs with ⟨b, e, _⟩ | ⟨r, e, hr⟩ <;> cases e
      have := hXN _ hr
      omega
theorem far_B {N : Nat} (hS : ShX Shun X) (hXN : ∀ r, X r → r < N) : Far Shun (BoxB N) (Grp N) := by
  refine ⟨fun l hl hg => ?_, fun l hs hl => ?_, fun l hs hg => ?_⟩
  · rcases hl with rfl; rcases hg with ⟨b, e, hb⟩ | e <;> cases e
    simp only at hb; omega
  · rcases hl with rfl
    exact sx_free hS hXN _ (by simp only; omega) hs
  · rcases hg with ⟨b, rfl, hb⟩ | rfl
    · exact sx_free hS hXN _ (by omega) hs
    · rcases hS _ hs with ⟨b, e, _⟩ | ⟨r, e, hr⟩ <;> cases e
      have := hXN _ hr
      omega
theorem e0_read {Box : Loc → Prop} {N : Nat} {a : Addr} (h : Box (.cell a)) : E0 Box N ⟨.cell a, false, false⟩ := by
  refine ⟨fun x hx => ?_, by simp [MemAct.ofEvent]⟩
  cases hx
  exact .inl ⟨h, rfl⟩
theorem ec_read {Box : Loc → Prop} {N : Nat} {a : Addr} (h : Box (.cell a)) : EC Shun Box N ⟨.cell a, false, false⟩ := by
  refine ⟨fun x hx => ?_, by simp [MemAct.ofEvent]⟩
  cases hx
  exact .inr (.inl ⟨h, rfl⟩)
/-- ████ A CALL OF SERVE ENDS WELL, IF WHAT IS BEHIND IT DOES. ████ -/
theorem serve_runs (h0X : ∀ r, X0 r → X r) {kd : CallKind} (hk : kd = .normal ∨ kd = .deferred) (hX : ∀ r, X r → Sq.prog.globals.size ≤ r) (hS : ShX Shun X) (hR : ∀ fr c v, R fr c v → c = [] ∧ fr.mode = .returning ∧ fr.defers = []) {args : Array Value} {c0 cs : List Frame} {v w : World}
    (h : Ends Sq.prog base R (Frame.enter Sq.prog 27 args kd) c0 v) (hO : Owns Sq.prog sts c0) (hsan : Sanes (Frame.enter Sq.prog 27 args kd) c0) (hw : Rel X v w) (hg : Gd v) (hgl : Sq.prog.globals.size ≤ w.heap.size) (hk0 : Kept X0 W0 w)
    (hE : ∀ sA sf (A : Act), Sl sA sf → A.defers = [] → EndsWell Try.prog Q Shun w.heap.size (n + 1) (back (baseK 27 kd) A ops15 0 [] [] cs)
      (ZqK X0 W0 X w.heap.size fun v' => ∃ x, Ends Sq.prog base R (((baseK 27 kd).at sA [.inRegion ops4 [0]]).finish x) c0 v' ∧ Pth Sq.prog base R (((baseK 27 kd).at sA [.inRegion ops4 [0]]).finish x) c0 v' (Frame.enter Sq.prog 27 args kd) c0 v)) :
    ∀ gs sl t q, gs.size = n → gs[0]? = some (G (Frame.enter Try.prog 27 args kd) cs) → Lv Try.prog 0 t gs q → Tr Shun 0 t → Wd Try.prog Q (crowd gs w sl) t := by
  have hke : kd ≠ .early := by rcases hk with rfl | rfl <;> simp
  have hK : (baseK 27 kd).kind ≠ .early := hke
  have hXN : ∀ r, X r → r < w.heap.size := fun r hr => by
    have := (Array.getElem?_eq_some_iff.1 (hw.pois r hr)).1
    have := hw.size
    omega
  obtain ⟨rp, a, cap, kv, sA, sf, v5, h0, h1, h2, ev5, hcell, hsl, hgot⟩ := serve_got hke (fun fr c v h => by rw [(hR fr c v h).2.1]; simp) hg h
  rw [h0] at hgot
  have F5 := goW_five w rp
  have hrel : Rel (X5 X w.heap.size) v5 (goW w rp) := by rw [ev5]; exact rel_five hw
  have hg5 : Gd v5 := by
    rw [ev5]
    have hb : ∀ v, Gd v → Gd (blk v) := fun v h => h.push (fun h => h)
    exact hb _ (hb _ (hb _ (hb _ (hb _ hg))))
  have haX : ¬ X5 X w.heap.size a.block := fun hx => by
    have hp := hrel.pois _ hx
    simp [World.cell?, hp, psn] at hcell
  have haW : (goW w rp).cell? a = some kv := by
    unfold World.cell?
    rw [← hrel.same _ haX]
    exact hcell
  have haN : a.block < w.heap.size := by
    refine Classical.byContradiction fun hn => ?_
    have h5 : w.heap.size + 5 ≤ a.block := Classical.byContradiction fun hn' => haX (.inr ⟨by omega, by omega⟩)
    unfold World.cell? at haW
    rw [Array.getElem?_eq_none (by rw [F5.size]; omega)] at haW
    cases haW
  have hX5 : ∀ r, X5 X w.heap.size r → Sq.prog.globals.size ≤ r := fun r hr => by
    rcases hr with hr | hr
    · exact hX r hr
    · omega
  have hfree : ∀ p : Addr, w.heap.size ≤ p.block → ¬ Shun (.cell p) := fun p hp => sx_free hS hXN p hp
  -- to the go statement, alone
  have hp : Pr Try.prog true AtRel (D1 Shun) (fun k a1 w1 => k = 0 ∧ AtRel (goW w rp) w1 ∧ ∃ A f, Sl A f ∧ Pl w.heap.size a cap f ∧ f 17 = .func (.func 44) #[] (boxes w.heap.size) ∧ a1 = G ((baseK 27 kd).at A (.inRegion ops7 [1] :: k7)) cs) 0 (G (Frame.enter Try.prog 27 args kd) cs) w := by
    refine serve_to_add hke h0 h1 h2 hfree fun A f hs hp => ?_
    refine serve_add (five_wg w rp) (fun b hb => hfree b (by omega)) ?_
    obtain ⟨o, ho, hd⟩ : ∃ o, ops6[0]? = some o ∧ o.dst = some 16 := ⟨_, rfl, rfl⟩
    rw [ho, Option.bind_some, hd]
    exact add_to_go (hs.put 16 _ (by decide)) (hp.up 16 _ (by decide)) hK fun A f hs hp h17 => .stop fun w1 r1 => ⟨rfl, r1, A, f, hs, hp, h17, rfl⟩
  refine solo_run (T := fun k t => Tr Shun k t) (n := n) (fun k t w w' es fn pos h d => h.own d) (fun k t ops h hs => h.slip hs) (fun k a w h => by obtain ⟨_, _, _, _, _, _, _, rfl⟩ := h; rfl) (fun k gs a1 w1 sl t q hn h0 hs hL hT => ?_) hp
  obtain ⟨rfl, ⟨d, rfl⟩, A, f, hsl0, hpl, h17, rfl⟩ := hs w1 (atRel_refl w1)
  have hr := runT_crowd_spawn (sl := sl) (i := 0) h0 (show stepG Try.prog (0 == 0) _ ((goW w rp).at d) = _ from go_step hsl0 h17 hK _)
  refine ⟨_, _, hr, ?_⟩
  rw [ofEvents_nil, hn]
  have hlt : 0 < gs.size := (Array.getElem?_eq_some_iff.1 h0).1
  have hc : n ≠ 0 := by omega
  generalize hy1 : (⟨0, _, _, .go n⟩ : MemOp) = y1
  generalize hy2 : (⟨n, _, _, .start⟩ : MemOp) = y2
  rw [show ((#[] : Trace).push y1).push y2 = #[y1, y2] from rfl]
  have e1 : y1.g = 0 ∧ y1.act = .go n := by rw [← hy1]; exact ⟨rfl, rfl⟩
  have e2 : y2.g = n ∧ y2.act = .start := by rw [← hy2]; exact ⟨rfl, rfl⟩
  have hu : ∀ op ∈ (#[y1, y2] : Trace), op.act ≠ .mark .disable ∧ op.act ≠ .mark .enable := by
    intro op hop
    simp only [List.mem_toArray, List.mem_cons, List.not_mem_nil, or_false] at hop
    rcases hop with rfl | rfl
    · rw [e1.2]; simp
    · rw [e2.2]; simp
  have hdn : Deaf t n = 0 := hL.above n (by omega)
  have hT1 : T1 Shun (BoxA w.heap.size a) w.heap.size n t.size 0 0 (t ++ #[y1, y2]) :=
    ⟨co_fork hT hdn e1 e2, (Go.ConcX.Deaf_keep t 0 _ hu).trans hT.hears, (Go.ConcX.Deaf_keep t n _ hu).trans hdn⟩
  have hL1 : Lv Try.prog n (t ++ #[y1, y2]) ((gs.setIfInBounds 0 (G ((baseK 27 kd).at A (.inRegion ops7 [] :: k7)) cs)).push (born Try.prog (dGo w.heap.size))) q := by
    refine ⟨fun j x hj0 hjn hx => ?_, fun j hj => ?_⟩
    · rw [Go.ConcX.Deaf_keep t j _ hu]
      rw [Array.getElem?_push, Array.size_setIfInBounds, hn, if_neg hjn, Array.getElem?_setIfInBounds_ne (Ne.symm hj0)] at hx
      exact hL.old j x hj0 hj0 hx
    · rw [Go.ConcX.Deaf_keep t j _ hu]
      refine hL.above j ?_
      simp at hj
      omega
  have FB : Far Shun (BoxB w.heap.size) (Grp w.heap.size) := far_B hS hXN
  -- from there, in company
  refine partA (n := n + 1) (p := t.size) (kv := kv) (bf := baseK 27 kd) (cs := cs) (far_A hS hXN (fun h => haX (.inl h)) haN) hc hK (w0 := (goW w rp).at d) F5.ch (fun p A f gs w1 sl t q hs hp hw1 hn h0 hcc hL hT => ?_) (k := 0) (kc := 0) (a := G ((baseK 27 kd).at A (.inRegion ops7 [] :: k7)) cs) (b := born Try.prog (dGo w.heap.size)) ?_ ?_ _ sl _ q (by simp [hn]) ?_ ?_ hL1 hT1
  · -- they have met
    obtain ⟨d1, rfl⟩ := hw1
    have low : ∀ b, b ≠ w.heap.size + 1 → ((((goW w rp).at d).at d1).setChan (w.heap.size + 1) 0 #[] false 1 1 false).heap[b]? = (goW w rp).heap[b]? := fun b hb => heap_setChan_ne _ _ _ _ _ _ _ (Ne.symm hb)
    have hIo : Io w.heap.size ((((goW w rp).at d).at d1).setChan (w.heap.size + 1) 0 #[] false 1 1 false) := ⟨heap_setChan_self _ F5.ch _ _ _ _ _ _, (low _ (by omega)).trans F5.wg⟩
    have hrel2 : Rel (X5 X w.heap.size) v5 ((((goW w rp).at d).at d1).setChan (w.heap.size + 1) 0 #[] false 1 1 false) :=
      rel_same hrel (size_setChan _ _ _ _ _ _ _ _) (fun b hb => low b fun e => hb (.inr (by omega))) rfl rfl
    have hq : (Try.prog.funcs[(baseK 27 kd).fn]?).any (·.norace) = false := by
      rw [show (baseK 27 kd).fn = 27 from rfl, Try.func27]
      rfl
    have hZ0 := zqk_zk (X0 := X0) (W0 := W0) (X := X) (N := w.heap.size) h0X hXN (fun v' => ∃ x, Ends Sq.prog base R (((baseK 27 kd).at sA [.inRegion ops4 [0]]).finish x) c0 v' ∧ Pth Sq.prog base R (((baseK 27 kd).at sA [.inRegion ops4 [0]]).finish x) c0 v' (Frame.enter Sq.prog 27 args kd) c0 v)
    have hcell0 : ((((goW w rp).at d).at d1).setChan (w.heap.size + 1) 0 #[] false 1 1 false).cell? ⟨w.heap.size, 0, none⟩ = some (.pointer (some rp)) := by
      unfold World.cell?
      rw [low _ (by simp), F5.rbox]
      rfl
    have hsa : Sanes (Frame.enter Sq.prog 46 #[.pointer (some rp), .int .i64 0, kv] .normal) ((baseK 27 kd).at sA [.inRegion ops4 [0]] :: c0) := by
      intro b hb
      rcases List.mem_cons.1 hb with rfl | hb
      · intro l e; cases e
      · rcases List.mem_cons.1 hb with rfl | hb
        · intro l e; cases e
        · exact hsan b (by simp [hb])
    have hchild := s1_pr (base := base) (R := R) (Zv := fun v' => ∃ x, Ends Sq.prog base R (((baseK 27 kd).at sA [.inRegion ops4 [0]]).finish x) c0 v' ∧ Pth Sq.prog base R (((baseK 27 kd).at sA [.inRegion ops4 [0]]).finish x) c0 v' (Frame.enter Sq.prog 27 args kd) c0 v)
      (k4 := undef) (t7 := undef) (t8 := undef) (t9 := undef) (t10 := undef) (t11 := undef) (t12 := undef) h0X hS hXN hX5 hR (.cons (serve_own hsl hk) hO) hsa hgot.ends hrel2 hg5
      (fun x v' hp he _ => ⟨x, he, by
        rcases hgot.from_ with ⟨_, e, _⟩ | hp0
        · exfalso
          have := congrArg List.length e
          simp at this
        · exact hp.trans hp0⟩) hcell0 ((low _ (by omega)).trans F5.wbox) (hk0.step fun r hr => (low r (by have := hXN _ (h0X r hr); omega)).trans (F5.low r (hXN _ (h0X r hr))))
    have HF : Wk (RG w.heap.size) (D0w w.heap.size) (E0 (BoxB w.heap.size) w.heap.size) (fun w1 => w1.heap[w.heap.size + 2]? = some (.cells #[.chan (some (w.heap.size + 1))] 98)) :=
      ⟨fun a b h r => r.2.1.trans h, fun _ _ he => ⟨rfl, he⟩⟩
    have hmain : Pr Try.prog true (RG w.heap.size) (D0w w.heap.size) (StopB w.heap.size (baseK 27 kd) cs) 0 (gSent (baseK 27 kd) cs A) ((((goW w rp).at d).at d1).setChan (w.heap.size + 1) 0 #[] false 1 1 false) := by
      refine send_to_close HF hs hp hK (fun w1 h => ?_) (e0_read rfl) (fun A f hs h7 h28 w1 _ => .stop fun _ _ => ⟨rfl, A, f, hs, h7, h28, rfl⟩) _ ((low _ (by omega)).trans F5.work)
      unfold World.cell?
      rw [h]
      rfl
    exact partB FB hfree hc hZ0 hK hq (fun A hA => hE sA sf A hsl hA) hchild hmain hIo gs sl t q hn h0 hcc hL hT
  · -- goroutine 0 to its send
    have HF : Wk AtRel (D0A w.heap.size a) (E0 (BoxA w.heap.size a) w.heap.size) (fun w1 => AtRel (goW w rp) w1) := ⟨fun a b h r => atRel_trans _ _ _ h r, fun _ _ he => ⟨rfl, he⟩⟩
    refine go_to_send HF hsl0 hpl hK (fun w1 h => ?_) (fun w1 h => ?_) (e0_read (.inr rfl)) (e0_read (.inl rfl)) (fun A f hs hp w1 _ => .stop fun _ _ => ⟨rfl, A, f, hs, hp, rfl⟩) _ ⟨d, rfl⟩
    · obtain ⟨d', rfl⟩ := h
      exact haW
    · obtain ⟨d', rfl⟩ := h
      show World.cell? (goW w rp) _ = _
      unfold World.cell?
      rw [F5.work]
      rfl
  · -- the child to its receive
    have HF : Wk AtRel (DcA Shun w.heap.size a) (EC Shun (BoxA w.heap.size a) w.heap.size) (fun w1 => AtRel (goW w rp) w1) := ⟨fun a b h r => atRel_trans _ _ _ h r, fun _ _ he => ⟨rfl, he⟩⟩
    refine worker_a HF (fun w1 h => ?_) (ec_read (.inl rfl)) (fun w1 _ => .stop fun _ _ => ⟨rfl, rfl⟩) _ ⟨d, rfl⟩
    obtain ⟨d', rfl⟩ := h
    show World.cell? (goW w rp) _ = _
    unfold World.cell?
    rw [F5.work]
    rfl
  · rw [Array.getElem?_push, Array.size_setIfInBounds, if_neg (by omega), Array.getElem?_setIfInBounds_self_of_lt hlt]
  · rw [Array.getElem?_push, Array.size_setIfInBounds, if_pos hn.symm]
end
end Go.Proofs.Ytdlnlcjmjgbikaa
