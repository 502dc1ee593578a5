/- The steps of a span; the steps of an edit, one a call. -/
import Derived.Test.YtobdfddpiobhhaaGb
namespace Go.Proofs.Ytobdfddpiobhhaa
open Go.RowKit
open EM
/-- A step, as the program has it. -/
def stR (s : St) : Rw := ⟨s.k, s.c, ba s.s⟩
def stV (s : St) : Value := .agg #[.int .i64 s.k, .int .i64 s.c, .string (ba s.s)]
theorem IsL.ofBlock {w : World} {g : Nat} {L : List Rw} {e : TypeId} {fz : Nat × Nat} {cap : Nat} (h : w.heap[g]? = some (.cells (L.flatMap Rw.vals).toArray e fz)) (hc : L.length ≤ cap) (hm : cap ≤ maxLen) (hl : L.length ≤ 1125899906842624) : IsL w (.slice (some ⟨g, 0, none⟩) L.length cap) L := by
  refine ⟨_, cap, rfl, hc, hl, hm, fun i hi => ⟨g, 0, rfl, fun r hr => ?_⟩⟩
  have key : ∀ j, j < 3 → (L.flatMap Rw.vals)[i * 3 + j]? = r.vals[j]? := by
    intro j hj
    clear h hc hm hl hi
    induction L generalizing i with
    | nil => simp at hr
    | cons a L ih =>
      cases i with
      | zero =>
        obtain rfl : a = r := by simpa using hr
        rw [List.flatMap_cons, List.getElem?_append_left (by simp [Rw.vals]; omega)]; simp
      | succ i =>
        rw [List.flatMap_cons, List.getElem?_append_right (by simp [Rw.vals]; omega)]
        rw [show (i + 1) * 3 + j - (Rw.vals a).length = i * 3 + j by simp [Rw.vals]; omega]
        exact ih i (by simpa using hr)
  rw [Nat.zero_add]
  refine ⟨?_, ?_, ?_⟩
  · rw [Lib.cell_of_heap h, List.getElem?_toArray]; exact (key 0 (by omega)).trans rfl
  · rw [Lib.cell_of_heap h, List.getElem?_toArray]; exact (key 1 (by omega)).trans rfl
  · rw [Lib.cell_of_heap h, List.getElem?_toArray]; exact (key 2 (by omega)).trans rfl
set_option maxHeartbeats 1000000 in
theorem stepsOfSpan_any (a : Nat) (c : Sp) (w : World) (h1 : a ≤ c.f) (h2 : c.f ≤ c.t) (h3 : c.t ≤ 1099511627776) :
    Calls Try.prog 18 #[.int .i64 a, .agg #[.int .i64 c.f, .int .i64 c.t, .string (ba c.s)]] w fun e w' => ∃ g, e = .returned (.slice (some ⟨g, 0, none⟩) 3 3) ∧ w.heap.size ≤ g ∧ IsL w' (.slice (some ⟨g, 0, none⟩) 3 3) ((st3 a c).map stR) ∧ Below w.heap.size w w' := by
  have e1 : (c.f : Int) - (a : Int) = ((c.f - a : Nat) : Int) := by omega
  have e2 : (c.t : Int) - (c.f : Int) = ((c.t - c.f : Nat) : Int) := by omega
  have e3 : (ba c.s).size = c.s.length := ba_size _
  have z1 : (a : Int) ≤ 1099511627776 := by omega
  have z2 : (c.f : Int) ≤ 1099511627776 := by omega
  have z3 : (c.t : Int) ≤ 1099511627776 := by omega
  have HE := hide (And.intro e1 (And.intro e2 e3))
  clear e1 e2 e3
  go_enter Try.func18, Try.ntmps18
  go_wp2_with fail
  go_ret
  refine ⟨_, rfl, ?_, ?_, ?_⟩
  · simp
  · obtain ⟨e1, e2, e3⟩ := HE.out
    rw [e1, e2, e3]
    refine IsL.ofBlock (L := (st3 a c).map stR) (g := w.heap.size + 1) (e := 43) (fz := (0, 0)) ?_ (by simp [st3]) (by decide) (by simp [st3])
    have := heap_alloc_new (w.alloc (Obj.cells #[Value.int IntKind.i64 ↑c.f, Value.int IntKind.i64 ↑c.t, Value.string (ba c.s)] 32)) (.cells #[.int .i64 0, .int .i64 ((c.f - a : Nat) : Int), .string ⟨#[]⟩, .int .i64 1, .int .i64 (c.s.length : Int), .string (ba c.s), .int .i64 2, .int .i64 ((c.t - c.f : Nat) : Int), .string ⟨#[]⟩] 43)
    rw [World.size_alloc] at this
    exact this
  · exact ((Below.refl _ _).alloc (Nat.le_refl _) _).alloc (by simp) _

/-- What gives the steps of an edit: what is ready, where it is, what spans are left. -/
structure NS (B : Nat) (w : World) (b0 b1 b2 : Nat) (R : List St) (a : Nat) (Ls : List Sp) (F : Nat → Prop) : Prop where
  h0 : ∃ rv, w.heap[b0]? = some (.cells #[rv] 52 (0, 0)) ∧ IsL w rv (R.map stR) ∧ ∀ k, rv.ownBlock = some k → F k ∧ k ≠ b0 ∧ k ≠ b1 ∧ k ≠ b2
  h1 : ∃ ev, w.heap[b1]? = some (.cells #[ev] 22 (0, 0)) ∧ IsL w ev (Ls.map raw) ∧ ∀ k, ev.ownBlock = some k → k < B
  h2 : w.heap[b2]? = some (.cells #[.int .i64 a] 3 (0, 0))
  f : F b0 ∧ F b1 ∧ F b2
  lt : ∀ k, F k → B ≤ k ∧ k < w.heap.size
  ne : b0 ≠ b1 ∧ b0 ≠ b2 ∧ b1 ≠ b2
  ok : ∃ n, Ok a n Ls ∧ n ≤ 1099511627776
  tt : tot Ls ≤ 1099511627776
theorem NS.keep {T F : Nat → Prop} {B : Nat} {w w' : World} {b0 b1 b2 : Nat} {R : List St} {a : Nat} {Ls : List Sp} (h : NS B w b0 b1 b2 R a Ls F) (hk : Kp T w w') (hd : ∀ k, F k → ¬ T k) (hT : ∀ k, T k → B ≤ k) : NS B w' b0 b1 b2 R a Ls F := by
  obtain ⟨⟨rv, r1, r2, r3⟩, ⟨ev, e1, e2, e3⟩, h2, f, lt, ne, ok, tt⟩ := h
  refine ⟨⟨rv, hk.heap r1 (hd _ f.1), r2.keep hk (fun k hkk => hd k (r3 k hkk).1), r3⟩, ⟨ev, hk.heap e1 (hd _ f.2.1), e2.keep hk (fun k hkk ht => by have := e3 k hkk; have := hT k ht; omega), e3⟩, hk.heap h2 (hd _ f.2.2), f, fun k hkk => ⟨(lt k hkk).1, Nat.lt_of_lt_of_le (lt k hkk).2 hk.size⟩, ne, ok, tt⟩
/-- The steps that are left. -/
def IsN (B : Nat) (w : World) (b0 b1 b2 : Nat) (S : List St) (F : Nat → Prop) : Prop := ∃ R a Ls, NS B w b0 b1 b2 R a Ls F ∧ S = real R ++ sts a Ls
theorem IsN.keep {T F : Nat → Prop} {B : Nat} {w w' : World} {b0 b1 b2 : Nat} {S : List St} (h : IsN B w b0 b1 b2 S F) (hk : Kp T w w') (hd : ∀ k, F k → ¬ T k) (hT : ∀ k, T k → B ≤ k) : IsN B w' b0 b1 b2 S F := by
  obtain ⟨R, a, Ls, h1, h2⟩ := h
  exact ⟨R, a, Ls, h1.keep hk hd hT, h2⟩
def nextV (b0 b1 b2 : Nat) : Value := .func (.func 17) #[] #[.pointer (some ⟨b0, 0, none⟩), .pointer (some ⟨b1, 0, none⟩), .pointer (some ⟨b2, 0, none⟩)]
theorem three (w : World) (a b c : Obj) : (((w.alloc a).alloc b).alloc c).heap[w.heap.size]? = some a ∧ (((w.alloc a).alloc b).alloc c).heap[w.heap.size + 1]? = some b ∧ (((w.alloc a).alloc b).alloc c).heap[w.heap.size + 1 + 1]? = some c := by
  have h1 := heap_alloc_new w a
  have h2 := heap_alloc_new (w.alloc a) b
  have h3 := heap_alloc_new ((w.alloc a).alloc b) c
  simp only [World.size_alloc] at h2 h3
  refine ⟨?_, ?_, h3⟩
  · rw [Below.heap_alloc _ _ _ (by simp; omega), Below.heap_alloc _ _ _ (by simp)]; exact h1
  · rw [Below.heap_alloc _ _ _ (by simp)]; exact h2
set_option maxHeartbeats 1000000 in
theorem stepsOf_any (B : Nat) (v : Value) (Ls : List Sp) (w : World) (hB : B ≤ w.heap.size) (h : IsL w v (Ls.map raw)) (hb : ∀ k, v.ownBlock = some k → k < B) (n : Nat) (hok : Ok 0 n Ls) (hn : n ≤ 1099511627776) (ht : tot Ls ≤ 1099511627776) :
    Calls Try.prog 10 #[v] w fun e w' => e = .returned (nextV (w.heap.size + 1 + 1) w.heap.size (w.heap.size + 1)) ∧ IsN B w' (w.heap.size + 1 + 1) w.heap.size (w.heap.size + 1) (sts 0 Ls) (fun k => w.heap.size ≤ k ∧ k < w'.heap.size) ∧ Below w.heap.size w w' := by
  have H := hide h
  have HB := hide hb
  clear hb
  obtain ⟨ao, cap, rfl, hc, hl, hcm, hx⟩ := h
  clear hx
  go_enter Try.func10, Try.ntmps10
  go_wp2_with fail
  go_ret
  refine ⟨rfl, ⟨[], 0, Ls, ?_, rfl⟩, (((Below.refl _ _).alloc (Nat.le_refl _) _).alloc (by simp) _).alloc (by simp; omega) _⟩
  obtain ⟨q0, q1, q2⟩ := three w (Obj.cells #[Value.slice ao Ls.length cap] 22) (Obj.cells #[Value.int IntKind.i64 0] 3) (Obj.cells #[Value.slice none 0 0] 52)
  have hbl : Below w.heap.size w (((w.alloc (Obj.cells #[Value.slice ao Ls.length cap] 22)).alloc (Obj.cells #[Value.int IntKind.i64 0] 3)).alloc (Obj.cells #[Value.slice none 0 0] 52)) := (((Below.refl _ _).alloc (Nat.le_refl _) _).alloc (by simp) _).alloc (by simp; omega) _
  refine ⟨⟨_, q2, ⟨none, 0, rfl, Nat.le_refl _, by simp, by unfold maxLen; omega, fun i hi => by simp at hi⟩, fun k hk => by simp [Value.ownBlock] at hk⟩, ⟨_, q0, ?_, ?_⟩, q1, ?_, ?_, by omega, ⟨n, hok, hn⟩, ht⟩
  · have := (H.out).below hbl
    rwa [List.length_map] at this
  · have := HB.out
    rwa [List.length_map] at this
  · simp; omega
  · rintro k ⟨h1, h2⟩; exact ⟨by omega, h2⟩
end Go.Proofs.Ytobdfddpiobhhaa
