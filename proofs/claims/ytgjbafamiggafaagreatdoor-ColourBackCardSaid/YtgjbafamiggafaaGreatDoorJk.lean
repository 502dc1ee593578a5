/- Package scope: the names of an NParams come in sight. -/
import Derived.Test.YtgjbafamiggafaaGreatDoorJe
import Derived.Test.YtgjbafamiggafaaGreatDoorIe
namespace Go.Proofs.YtgjbafamiggafaaGreatDoor
open Go.RowKit
open M
namespace X
theorem parU_app (f : Nat) (r : List Nm) : ∀ (l seen : List Nm), parU f seen (l ++ r) = parU f seen l ++ parU f (seen ++ l) r
  | [], seen => by rw [List.nil_append, parU, List.nil_append, List.append_nil]
  | a :: l, seen => by
    rw [List.cons_append, parU, parU, parU_app f r l, List.append_assoc, List.append_assoc]
    rfl
theorem parU_snoc (f : Nat) (n : Nm) (l seen : List Nm) : parU f seen (l ++ [n]) = parU f seen l ++ ownU f n 1 (if (seen ++ l).any (fun m => m.1 == n.1) then 5 else 0) := by
  rw [parU_app, parU, parU, List.append_nil]
theorem parU_take (f : Nat) (ns : List Nm) (j : Nat) : (parU f [] (ns.take j)).length ≤ (parU f [] ns).length := by
  have := parU_app f (ns.drop j) (ns.take j) []
  rw [List.take_append_drop] at this
  rw [this, List.length_append]; omega
theorem take_snoc {α : Type} {l : List α} {j : Nat} {n : α} (h : l[j]? = some n) : l.take (j + 1) = l.take j ++ [n] := by
  rw [List.take_add_one, h]; rfl
theorem first_snoc (l : List Nm) (n : Nm) (x : List UInt8) : first (l ++ [n]) x = match first l x with | some i => some i | none => if n.1 = x then some n.2 else none := by
  unfold first
  rw [List.find?_append]
  cases h : l.find? (fun m => m.1 == x) with
  | some m => simp
  | none =>
    by_cases e : n.1 = x
    · simp [e]
    · simp [e]
theorem first_any (l : List Nm) (x : List UInt8) : l.any (fun m => m.1 == x) = (first l x).isSome := by
  unfold first
  rw [Option.isSome_map]
  exact Bool.eq_iff_iff.2 (by rw [List.any_eq_true, List.find?_isSome])
end X
/-- A span of blocks that is not turned. -/
structure Av (L : Lay) (n B lo hi : Nat) : Prop where
  top : hi ≤ B
  av : ∀ q, lo ≤ q → q < hi → ¬ L.S n q
theorem Av.sx {L : Lay} {n B lo hi : Nat} (h : Av L n B lo hi) (w : World) : ∀ q, lo ≤ q → q < hi → ¬ L.Sx n B w q := fun q h1 h2 hs => by
  rcases hs with hs | hs
  · exact h.av q h1 h2 hs
  · have := h.top; omega
/-- A store into a map, at a step of a region that draws its order. -/
theorem step_put_mp {w : World} {ops : Array Oper} {o : Oper} {a : Act} {K : Act → World → Prop} {Q : Exit → Act → World → Prop} {E : Prop} (hg : o.guard = none) (m x v : Operand) (hop : o.op = Op.mapUpdate 59 m x v) (b n : Nat) (g : List UInt8 → Option Nat)
    (hm : a.eval m = .map (some b)) (h : Mp w b n g) (hn : n < maxLen) (k : List UInt8) (hk : k.length ≤ maxLen) (i : Nat) (hi : i ≤ 9223372036854775807) (hx : a.eval x = .string (ba k)) (hv : a.eval v = .int .i64 i)
    (hK : ∀ w', Mp w' b (n + 1) (upd g k i) → Kp (fun q => q = b) w w' → K (a.put o.dst undef) w') :
    if Region.wanted o (yielded ops a.tmps) = true then Oper.wp Tryz.prog o a w K Q else E := by
  have hw : Region.wanted o (yielded ops a.tmps) = true := by simp [Region.wanted, hg]
  rw [if_pos hw]
  obtain ⟨w', hrun, r1, r2⟩ := h.run_put hn hk hi
  unfold Oper.wp
  simp [execOp, hop, hm, hx, hv, hrun, Result.andThen]
  exact hK w' r1 r2
/-- The names of a slice. -/
def IsNs (w : World) (lo hi : Nat) (ao : Option Addr) (ns : List X.Nm) : Prop := ∀ (j : Nat) (n : X.Nm), ns[j]? = some n → ∃ g, ao = some ⟨g, 0, none⟩ ∧ lo ≤ g ∧ g < hi ∧ w.cell? ⟨g, j * 2, none⟩ = some (.string (ba n.1)) ∧ w.cell? ⟨g, j * 2 + 1, none⟩ = some (.int .i64 n.2)
theorem IsNs.keep {S : Nat → Prop} {w w' : World} {lo hi : Nat} {ao : Option Addr} {ns : List X.Nm} (h : IsNs w lo hi ao ns) (hk : Kp S w w') (hS : ∀ i, lo ≤ i → i < hi → ¬ S i) : IsNs w' lo hi ao ns := fun j n hj => by
  obtain ⟨g, e1, e2, e3, e4, e5⟩ := h j n hj
  exact ⟨g, e1, e2, e3, hk.cellv e4 (hS g e2 e3), hk.cellv e5 (hS g e2 e3)⟩
/-- Blocks in which a map does not lie. -/
inductive Out (w : World) (m : Nat) : Value → Prop
  | nil : Out w m (.pointer none)
  | cons (b m' : Nat) (v : Value) (hb : b ≠ m) (hm : m' ≠ m) (h : w.heap[b]? = some (.cells #[.map (some m'), v] 258 (0, 0))) (ho : Out w m v) : Out w m (.pointer (some ⟨b, 0, none⟩))
theorem IsBk.lt {B : Nat} {w : World} {v : Value} {sc : List (List X.Nm)} {m : Nat} (h : IsBk w B v sc) (hm : w.heap.size ≤ m) : Out w m v := by
  induction h with
  | nil => exact .nil
  | cons b m' k ns v sc hB hm' h hp ho ih => exact .cons b m' v (by have := heap_lt h; omega) (by have := hp.lt; omega) h ih
theorem Out.keep {L : Lay} {n B : Nat} {w w' : World} {m : Nat} {v : Value} (h : Out w m v) (hk : Kx L n B w w') (hS : ∀ q, L.S n q → q < B) {sc : List (List X.Nm)} (hbk : IsBk w B v sc) : Out w' m v := by
  induction h generalizing sc with
  | nil => exact .nil
  | cons b m' v hb hm h ho ih =>
    cases hbk with
    | cons _ m2 k ns v2 sc hB hm' h' hp ho' =>
      rw [h] at h'
      cases h'
      exact .cons b m' v hb hm (hk.made hS h hB (fun cs d e => by cases e)) (ih ho')
theorem mkMapN (n : Int) (w : World) : (Instr.makeMap 59 (some (.int .i64 n))).run Tryz.prog w = .ok (.map (some w.heap.size)) (w.alloc (.map #[] 0)) := by
  simp [Instr.makeMap, run_underlying Tryz.underlying59, asInt, go_sem]
/-- Where the names of an NParams are gone through. -/
structure InP (w : World) (w0 : World) (L : Lay) (fs : List X.Fl) (M : Mem) (us : List X.U) (lo hi : Nat) (ao : Option Addr) (ns : List X.Nm) (bv : Value) (sc : List (List X.Nm)) (b m j : Nat) (wr : World) : Prop where
  run : Run w0 L fs M (us ++ X.parU L.tf [] (ns.take j)) wr
  kx : Kx L fs.length w0.heap.size w wr
  par : IsNs wr lo hi ao ns
  bl : wr.heap[b]? = some (.cells #[.map (some m), bv] 258 (0, 0))
  mp : Mp wr m j (X.first (ns.take j))
  bk : IsBk wr w0.heap.size bv sc
  ot : Out wr m bv
variable {w0 : World} {L : Lay} {fs : List X.Fl} {M : Mem} {us : List X.U} {w : World}
theorem Mp.kx {n B : Nat} {w w' : World} {b k : Nat} {g : List UInt8 → Option Nat} (h : Mp w b k g) (hk : Kx L n B w w') (hS : ∀ q, L.S n q → q < B) (hB : B ≤ b) : Mp w' b k g := by
  obtain ⟨es, clock, hb⟩ := h.obj
  exact h.keep hk (fun hs => by
    rcases hs with hs | ⟨-, cs, d, hu⟩
    · have := hS b hs; omega
    · rw [hb] at hu; cases hu)
/-- A map that was made behind the workspace is turned. -/
theorem Run.map (h : Run w0 L fs M us w) {w' : World} {m : Nat} (hk : Kp (fun q => q = m) w w') (hm : w0.heap.size ≤ m) (ho : ∃ es clock, w.heap[m]? = some (.map es clock)) : Run w0 L fs M us w' := by
  obtain ⟨es, clock, hob⟩ := ho
  refine ⟨h.st, h.kp.trans hk (fun i hi e => by omega), ?_, fun i hi => ?_, h.lim⟩
  · obtain ⟨nv, h1, h2⟩ := h.tl
    refine ⟨nv, hk.heap h1 (fun e => by have := h.st.wl; omega), hk.owns h2 (fun q hq e => ?_)⟩
    rcases h2.2 with ⟨rfl, -⟩ | ⟨g', cap', cur, rfl, hge, hgg, -⟩
    · cases hq
    · cases hq
      have e' : g' = m := e
      rw [e', hob] at hgg
      cases hgg
  · obtain ⟨arr, x1, x2⟩ := h.fd i hi
    exact ⟨arr, hk.heap x1 (fun e => by have := (h.st.gl i hi).1; omega), x2⟩
theorem Out.map {w w' : World} {m : Nat} {v : Value} (h : Out w m v) (hk : Kp (fun q => q = m) w w') : Out w' m v := by
  induction h with
  | nil => exact .nil
  | cons b m' v hb hm h ho ih => exact .cons b m' v hb hm (hk.heap h hb) ih
theorem IsBk.map {B : Nat} {w w' : World} {m : Nat} (hk : Kp (fun q => q = m) w w') {v : Value} {sc : List (List X.Nm)} (h : IsBk w B v sc) (ho : Out w m v) : IsBk w' B v sc := by
  induction h with
  | nil => exact .nil
  | cons b m' k ns v sc hB hm' h hp ho' ih =>
    cases ho with
    | cons _ m2 v2 hb hm h' hoo =>
      rw [h] at h'
      cases h'
      exact .cons b m' k ns v sc hB hm' (hk.heap h hb) (hp.keep hk hm) (ih hoo)
/-- A step of a call that tells names. -/
theorem InP.step {lo hi : Nat} {ao : Option Addr} {ns : List X.Nm} {bv : Value} {sc : List (List X.Nm)} {b m j : Nat} {wr w2 : World} (h : InP w w0 L fs M us lo hi ao ns bv sc b m j wr) (hv : Av L fs.length w0.heap.size lo hi) (h2 : w0.heap.size ≤ b) (h3 : w0.heap.size ≤ m) {us2 : List X.U} (hr : Run w0 L fs M us2 w2) (hk : Kx L fs.length w0.heap.size wr w2) :
    Kx L fs.length w0.heap.size w w2 ∧ IsNs w2 lo hi ao ns ∧ w2.heap[b]? = some (.cells #[.map (some m), bv] 258 (0, 0)) ∧ Mp w2 m j (X.first (ns.take j)) ∧ IsBk w2 w0.heap.size bv sc ∧ Out w2 m bv := by
  have hS := hr.st.lt
  exact ⟨h.kx.trans hk, h.par.keep hk (hv.sx wr), hk.made hS h.bl h2 (fun cs d e => by cases e), h.mp.kx hk hS h3, h.bk.keep hk hS, h.ot.keep hk hS h.bk⟩
set_option maxRecDepth 100000 in
set_option maxHeartbeats 4000000 in
theorem tparams_any (lo hi pb : Nat) (ns : List X.Nm) (bv : Value) (sc : List (List X.Nm)) (hv : Av L fs.length w0.heap.size lo hi) (hp : IsPar w lo hi pb ns) (hnB : ∀ n ∈ ns, X.nmB 268435456 n) (h : Run w0 L fs M us w) (hbk : IsBk w w0.heap.size bv sc) (hlim : us.length + (X.parU L.tf [] ns).length ≤ 1073741824) :
    Calls Tryz.prog 107 #[.pointer (some ⟨L.tb, 0, none⟩), .pointer (some ⟨pb, 0, none⟩), bv] w fun e w' => ∃ b, e = .returned (.pointer (some ⟨b, 0, none⟩)) ∧ Hid (Run w0 L fs M (us ++ X.parU L.tf [] ns) w' ∧ Kx L fs.length w0.heap.size w w' ∧ IsBk w' w0.heap.size (.pointer (some ⟨b, 0, none⟩)) (ns :: sc)) := by
  have hmm := mkMapN
  have h0 := h.size
  have hbv : ∃ pa, bv = .pointer pa := by cases hbk <;> exact ⟨_, rfl⟩
  obtain ⟨pa, rfl⟩ := hbv
  have kA : Below w.heap.size w ((w.alloc (.map #[] 0)).alloc (.cells #[.map (some w.heap.size), .pointer pa] 258)) := ((Below.refl _ w).alloc (Nat.le_refl _) _).alloc (by simp) _
  obtain ⟨ao, cap, hpb, hc1, hc2, hcs⟩ := hp.ex
  have hcs' : IsNs w lo hi ao ns := fun j n hj => by obtain ⟨g, u1, u2, u3, u4, u5, -⟩ := hcs j n hj; exact ⟨g, u1, u2, u3, u4, u5⟩
  have HI0 : Hid (InP w w0 L fs M us lo hi ao ns (.pointer pa) sc (w.heap.size + 1) w.heap.size 0 ((w.alloc (.map #[] 0)).alloc (.cells #[.map (some w.heap.size), .pointer pa] 258))) := by
    refine ⟨?_, Kx.ofBelow kA, hcs'.keep (Kp.ofBelow kA (fun _ => False)) (fun _ _ _ => id), ?_, ?_, hbk.blw kA, (hbk.lt (by omega)).keep (Kx.ofBelow (L := L) (n := fs.length) (B := w0.heap.size) kA) h.st.lt hbk⟩
    · rw [List.take_zero, X.parU, List.append_nil]; exact h.below kA
    · have := heap_alloc_new (w.alloc (.map #[] 0)) (.cells #[.map (some w.heap.size), .pointer pa] 258)
      simpa using this
    · have := (Mp.made w).below ((Below.refl _ _).alloc (Nat.le_refl _) (.cells #[.map (some w.heap.size), .pointer pa] 258))
      exact Mp.congr (g := fun _ => none) this (fun _ => rfl)
  have hpl := heap_lt hpb
  have p00 := cell_of_row w _ 0 _ _ _ hpb
  have p0 := kcb kA hpl p00
  have hcap : ns.length ≤ 9223372036854775807 := by unfold maxLen at hc2; omega
  have HV := hide hv
  have HB := hide hnB
  clear kA hpb hcs hcs' hp h hbk hv hnB
  go_enter Tryz.func107, Tryz.ntmps107
  go_wp2_with fail
  generalize (w.alloc (.map #[] 0)).alloc (.cells #[.map (some w.heap.size), .pointer pa] 258) = W at *
  go_loopw [29] (fun v wr => ∃ j : Nat, v = .int .i64 j ∧ j ≤ ns.length ∧ Hid (InP w w0 L fs M us lo hi ao ns (.pointer pa) sc (w.heap.size + 1) w.heap.size j wr)) (fun v _ => ns.length - (intOf v).toNat)
  case atStart => exact ⟨0, rfl, Nat.zero_le _, HI0⟩
  case round =>
    obtain ⟨j, rfl, hj, HI⟩ := hrel
    clear HI0
    by_cases hjl : j < ns.length
    · obtain ⟨n, hn⟩ : ∃ n, ns[j]? = some n := ⟨ns[j], List.getElem?_eq_getElem hjl⟩
      obtain ⟨g, e1, e2, e3, e4, e5⟩ := (HI.out).par j n hn
      subst e1
      obtain ⟨nB1, nB2⟩ := (HB.out) n (List.mem_of_getElem? hn)
      have hlen : n.1.length ≤ maxLen := by unfold maxLen; omega
      have hi1 : (j : Int) < (ns.length : Int) := by omega
      have kW : Below wr.heap.size wr (wr.alloc (.cells #[.string (ba n.1), .int .i64 n.2] 136)) := (Below.refl _ wr).alloc (Nat.le_refl _) _
      have HK1 := hide kW
      have R1 := (HI.out).run.below kW
      have hwr0 : w0.heap.size ≤ wr.heap.size := (HI.out).run.size
      have hwr2 : w.heap.size + 1 < wr.heap.size := heap_lt (HI.out).bl
      have b0 := kcb kW (by omega) (cell_of_row wr _ 0 _ _ _ (HI.out).bl)
      have hN0 := hide (heap_alloc_new wr (.cells #[.string (ba n.1), .int .i64 n.2] 136))
      have n0 := cell_of_row _ _ 0 _ _ _ hN0.out
      have n1 := cell_of_row _ _ 1 _ _ _ hN0.out
      have hrun := ((HI.out).mp.below (kW.drew)).run_ok hlen
      clear kW
      cases hfn : X.first (ns.take j) n.1 with
      | some i =>
        rw [hfn] at hrun
        have hrun' : (Instr.lookup 59 (.map (some w.heap.size)) (.string (ba n.1)) true).run Tryz.prog (wr.alloc (.cells #[.string (ba n.1), .int .i64 n.2] 136)).drew = .ok (.tuple #[.int .i64 (i : Nat), .bool true]) (wr.alloc (.cells #[.string (ba n.1), .int .i64 n.2] 136)).drew := hrun
        have hany : (if ([] ++ ns.take j).any (fun m => m.1 == n.1) then 5 else 0) = 5 := by rw [List.nil_append, X.first_any, hfn]; rfl
        have HU : Hid (us ++ X.parU L.tf [] (ns.take (j + 1)) = (us ++ X.parU L.tf [] (ns.take j)) ++ X.ownU L.tf n 1 5) := by
          rw [X.take_snoc hn, X.parU_snoc, hany, List.append_assoc]; exact hide rfl
        have hl2 : (us ++ X.parU L.tf [] (ns.take j)).length + (X.ownU L.tf n 1 5).length ≤ 1073741824 := by
          have e1 := congrArg List.length HU.out
          have e2 := X.parU_take L.tf ns (j + 1)
          rw [List.length_append, List.length_append] at e1
          omega
        have HC := hide (town_any n 1 5 (R1.below ((Below.refl _ _).drew)) hl2)
        clear hrun R1 hl2 hany
        go_wp2_with fail
        generalize hW1 : wr.alloc (.cells #[.string (ba n.1), .int .i64 n.2] 136) = W1 at *
        go_region_held3 (fun w' => w'.cell? ⟨w.heap.size + 1, 0, none⟩ = some (.map (some w.heap.size)) ∧ w'.cell? ⟨wr.heap.size, 0, none⟩ = some (.string (ba n.1)) ∧ (Instr.lookup 59 (.map (some w.heap.size)) (.string (ba n.1)) true).run Tryz.prog w' = .ok (.tuple #[.int .i64 (i : Nat), .bool true]) w')
          (first | (with_reducible exact ⟨b0, n0, hrun'⟩) | go_keep)
          (fail)
        clear hrun'
        have n0d : W1.drew.cell? ⟨wr.heap.size, 0, none⟩ = some (.string (ba n.1)) := n0
        have n1d : W1.drew.cell? ⟨wr.heap.size, 1, none⟩ = some (.int .i64 n.2) := n1
        go_wp2_with fail
        refine (HC.out).mono ?_
        rintro e w2 ⟨rfl, H2⟩
        have hk2 : Kx L fs.length w0.heap.size wr w2 := (Kx.ofBelow ((HK1.out).drew)).trans (H2.out).2
        obtain ⟨y1, y2, y4, y5, y6, y7⟩ := (HI.out).step HV.out (by omega) (by omega) (H2.out).1 hk2
        have hnm2 : w2.heap[wr.heap.size]? = some (.cells #[.string (ba n.1), .int .i64 n.2] 136 (0, 0)) := (H2.out).2.made (H2.out).1.st.lt hN0.out hwr0 (fun cs d e => by cases e)
        clear HC n0d n1d n0 n1 b0 HK1
        have HI2 : Hid (InP w w0 L fs M us lo hi (some ⟨g, 0, none⟩) ns (.pointer pa) sc (w.heap.size + 1) w.heap.size (j + 1) w2) := by
          refine ⟨by rw [HU.out]; exact (H2.out).1, y1, y2, y4, ?_, y6, y7⟩
          obtain ⟨D, o1, o2⟩ := y5
          refine Mp.congr (g := X.first (ns.take j)) ⟨D, o1.mono (by omega), o2⟩ (fun x => ?_)
          rw [X.take_snoc hn, X.first_snoc]
          cases hx : X.first (ns.take j) x with
          | some i => rfl
          | none =>
            by_cases e : n.1 = x
            · rw [e, hx] at hfn; cases hfn
            · simp [e]
        clear y1 y2 y4 y5 y6 y7 hnm2 hk2 H2 HI
        go_wp2_with fail
        exact ⟨⟨j + 1, by simp, by omega, HI2⟩, by simp [intOf]; omega⟩
      | none =>
        rw [hfn] at hrun
        have hrun' : (Instr.lookup 59 (.map (some w.heap.size)) (.string (ba n.1)) true).run Tryz.prog (wr.alloc (.cells #[.string (ba n.1), .int .i64 n.2] 136)).drew = .ok (.tuple #[.int .i64 0, .bool false]) (wr.alloc (.cells #[.string (ba n.1), .int .i64 n.2] 136)).drew := hrun
        have hany : (if ([] ++ ns.take j).any (fun m => m.1 == n.1) then 5 else 0) = 0 := by rw [List.nil_append, X.first_any, hfn]; rfl
        have HU : Hid (us ++ X.parU L.tf [] (ns.take (j + 1)) = (us ++ X.parU L.tf [] (ns.take j)) ++ X.ownU L.tf n 1 0) := by
          rw [X.take_snoc hn, X.parU_snoc, hany, List.append_assoc]; exact hide rfl
        have hl2 : (us ++ X.parU L.tf [] (ns.take j)).length + (X.ownU L.tf n 1 0).length ≤ 1073741824 := by
          have e1 := congrArg List.length HU.out
          have e2 := X.parU_take L.tf ns (j + 1)
          rw [List.length_append, List.length_append] at e1
          omega
        have HC := hide (town_any n 1 0 (R1.below ((Below.refl _ _).drew)) hl2)
        clear hrun R1 hl2 hany
        go_wp2_with fail
        generalize hW1 : wr.alloc (.cells #[.string (ba n.1), .int .i64 n.2] 136) = W1 at *
        go_region_held3 (fun w' => w'.cell? ⟨w.heap.size + 1, 0, none⟩ = some (.map (some w.heap.size)) ∧ w'.cell? ⟨wr.heap.size, 0, none⟩ = some (.string (ba n.1)) ∧ (Instr.lookup 59 (.map (some w.heap.size)) (.string (ba n.1)) true).run Tryz.prog w' = .ok (.tuple #[.int .i64 0, .bool false]) w')
          (first | (with_reducible exact ⟨b0, n0, hrun'⟩) | go_keep)
          (fail)
        clear hrun'
        have n0d : W1.drew.cell? ⟨wr.heap.size, 0, none⟩ = some (.string (ba n.1)) := n0
        have n1d : W1.drew.cell? ⟨wr.heap.size, 1, none⟩ = some (.int .i64 n.2) := n1
        go_wp2_with fail
        refine (HC.out).mono ?_
        rintro e w2 ⟨rfl, H2⟩
        have hk2 : Kx L fs.length w0.heap.size wr w2 := (Kx.ofBelow ((HK1.out).drew)).trans (H2.out).2
        obtain ⟨y1, y2, y4, y5, y6, y7⟩ := (HI.out).step HV.out (by omega) (by omega) (H2.out).1 hk2
        have hnm2 : w2.heap[wr.heap.size]? = some (.cells #[.string (ba n.1), .int .i64 n.2] 136 (0, 0)) := (H2.out).2.made (H2.out).1.st.lt hN0.out hwr0 (fun cs d e => by cases e)
        clear HC n0d n1d n0 n1 b0 HK1
        have b0' := cell_of_row w2 _ 0 _ _ _ y4
        have q0 := cell_of_row w2 _ 0 _ _ _ hnm2
        have q1 := cell_of_row w2 _ 1 _ _ _ hnm2
        have hbl2 := heap_lt y4
        have hnl2 := heap_lt hnm2
        have HR2 := hide (H2.out).1
        have Y1 := hide y1
        have Y2 := hide y2
        have Y4 := hide y4
        have Y5 := hide y5
        have Y6 := hide y6
        have Y7 := hide y7
        clear y1 y2 y4 y5 y6 y7 hnm2 hk2 H2 HI
        go_wp2_with fail
        have hne1 : ¬ (w.heap.size + 1 = w.heap.size) := by omega
        have HM5 : Hid (Mp w2.drew w.heap.size j (X.first (ns.take j))) := (Y5.out).below ((Below.refl _ w2).drew)
        have hjm : j < maxLen := by unfold maxLen; omega
        have hn2 : n.2 ≤ 9223372036854775807 := by omega
        have hne2 : ¬ (wr.heap.size = w.heap.size) := by have := hwr2; omega
        refine wpTo_start (S := fun w' => w'.cell? ⟨w.heap.size + 1, 0, none⟩ = some (.map (some w.heap.size)) ∧ w'.cell? ⟨wr.heap.size, 0, none⟩ = some (.string (ba n.1)) ∧ w'.cell? ⟨wr.heap.size, 1, none⟩ = some (.int .i64 n.2)) (z := 8) (by kernel_rfl) ?_
        have hS : w2.drew.cell? ⟨w.heap.size + 1, 0, none⟩ = some (.map (some w.heap.size)) ∧ w2.drew.cell? ⟨wr.heap.size, 0, none⟩ = some (.string (ba n.1)) ∧ w2.drew.cell? ⟨wr.heap.size, 1, none⟩ = some (.int .i64 n.2) := ⟨b0', q0, q1⟩
        iterate 8 (refine wpTo_nx0 (v := ?_) rfl rfl (by kernel_rfl) (by kernel_rfl) (by kernel_rfl) (by kernel_rfl) (fun _ _ _ h => h) (Or.inl ⟨by rfl, ?_⟩) hS ?_; rotate_left; (· (intro wx hSw; (try dsimp only at hSw); go_simp; try (with_reducible rfl))); simp only [Act.put, List.setIfInBounds_toArray, List.set_cons_zero, List.set_cons_succ])
        refine wpTo_one (i := 8) (by kernel_rfl) rfl (fun K hK => ?_)
        refine step_put_mp (by rfl) _ _ _ (by rfl) w.heap.size j (X.first (ns.take j)) (by rfl) HM5.out hjm n.1 hlen n.2 hn2 (by rfl) (by rfl) ?_
        intro w5 hmp5 hk5
        refine hK.out _ _ (fun h => absurd rfl h) (fun _ => wpTo_end (by kernel_rfl) ?_)
        clear hK K hS
        have HI2 : Hid (InP w w0 L fs M us lo hi (some ⟨g, 0, none⟩) ns (.pointer pa) sc (w.heap.size + 1) w.heap.size (j + 1) w5) := by
          have hw0m : w0.heap.size ≤ w.heap.size := by omega
          have hk25 : Kp (fun q => q = w.heap.size) w2 w5 := ((Kp.refl _ w2).drew).trans hk5 (fun _ _ e => e)
          have hav : ∀ i, lo ≤ i → i < hi → ¬ (i = w.heap.size) := fun i _ hi' e => by have := (HV.out).top; omega
          have hr5 : Run w0 L fs M (us ++ X.parU L.tf [] (ns.take (j + 1))) w5 := by
            rw [HU.out]
            exact (HR2.out).map hk25 hw0m (Y5.out).obj
          have hkx5 : Kx L fs.length w0.heap.size w w5 := Kp.trans Y1.out hk25 (fun i hi' e => by omega)
          refine ⟨hr5, hkx5, (Y2.out).keep hk25 hav, hk25.heap Y4.out (by omega), ?_, (Y6.out).map hk25 Y7.out, (Y7.out).map hk25⟩
          refine hmp5.congr (fun x => ?_)
          rw [X.take_snoc hn, X.first_snoc]
          unfold upd
          by_cases e : x = n.1
          · subst e
            rw [if_pos rfl, hfn]
            simp
          · rw [if_neg e]
            cases hx : X.first (ns.take j) x with
            | some i => rfl
            | none => simp [Ne.symm e]
        clear hmp5 hk5 b0' q0 q1 Y1 Y2 Y4 Y5 Y6 Y7 HR2
        go_wp2_with fail
        exact ⟨⟨j + 1, by simp, by omega, HI2⟩, by simp [intOf]; omega⟩
    · obtain rfl : j = ns.length := by omega
      have hd1 : ¬ (ns.length : Int) < (ns.length : Int) := by omega
      have HF : Hid (Run w0 L fs M (us ++ X.parU L.tf [] ns) wr ∧ Kx L fs.length w0.heap.size w wr ∧ IsBk wr w0.heap.size (.pointer (some ⟨w.heap.size + 1, 0, none⟩)) (ns :: sc)) := by
        have hin := HI.out
        have e1 := hin.run
        have e2 := hin.mp
        rw [List.take_length] at e1 e2
        exact ⟨e1, hin.kx, .cons _ _ _ ns _ sc (by omega) (by omega) hin.bl e2 hin.bk⟩
      clear HI
      go_wp2_with fail
      go_ret
      exact ⟨_, rfl, HF⟩
end Go.Proofs.YtgjbafamiggafaaGreatDoor
/- Package scope: what is wrong with the files of a workspace. -/
namespace Go.Proofs.YtgjbafamiggafaaGreatDoor
open Go.RowKit
open M
/-- A file as it is handed in: its name, its text. -/
structure AF where
  n : ByteArray
  t : ByteArray
/-- Files in a slice. -/
def IsAF (w : World) (B : Nat) (ao : Option Addr) (l : List AF) : Prop := ∀ (j : Nat) (a : AF), l[j]? = some a → ∃ b o, ao = some ⟨b, o, none⟩ ∧ b < B ∧ w.cell? ⟨b, o + j * 2, none⟩ = some (.string a.n) ∧ w.cell? ⟨b, o + j * 2 + 1, none⟩ = some (.string a.t)
theorem IsAF.below {w w' : World} {B : Nat} {ao : Option Addr} {l : List AF} (h : IsAF w B ao l) (hk : Below B w w') : IsAF w' B ao l := fun j a hj => by
  obtain ⟨b, o, e1, e2, e3, e4⟩ := h j a hj
  exact ⟨b, o, e1, e2, (hk.cell (p := ⟨b, o + j * 2, none⟩) e2).trans e3, (hk.cell (p := ⟨b, o + j * 2 + 1, none⟩) e2).trans e4⟩
/-- Is a name a name? -/
def nmOk (s : ByteArray) : Bool := decide (s.size ≤ 40) && aloneB (bs s) 3
/-- What is wrong with names. -/
def fltN : List AF → List (List UInt8) → Nat
  | [], _ => 0
  | a :: l, seen => if nmOk a.n then (if bs a.n ∈ seen then 5 else fltN l (seen ++ [bs a.n])) else 4
/-- What is wrong with files. -/
def fltF (l : List AF) : Nat := if 16 < l.length then 12 else if l.any (fun a => decide (20000 < a.t.size)) then 12 else fltN l []
/-- What an error is in memory. -/
def errV (r : Nat) : Value := if r = 0 then .nilIface else .iface 29 (.int .i64 r)
theorem name_is (s : ByteArray) (w : World) (hT : Tabs w) (b : Bool) (hb : nmOk s = b) : Calls Tryz.prog 19 #[.string s] w fun e w' => e = .returned (.bool b) ∧ Below w.heap.size w w' := by
  subst hb
  by_cases h : s.size ≤ 40
  · exact lexname_any s w hT (by omega)
  · have i1 : decide ((s.size : Int) ≤ 40) = false := by simp; omega
    unfold nmOk
    rw [decide_eq_false h, Bool.false_and]
    go_enter Tryz.func19, Tryz.ntmps19
    go_wp2_with fail
    go_ret
    exact ⟨rfl, Below.refl _ _⟩
/-- Which of some files has a name. -/
def idxN (l : List AF) (x : List UInt8) : Option Nat := l.findIdx? (fun a => bs a.n == x)
theorem idxN_snoc {l : List AF} {j : Nat} {a : AF} (h : l[j]? = some a) (x : List UInt8) : idxN (l.take (j + 1)) x = match idxN (l.take j) x with | some i => some i | none => if bs a.n = x then some j else none := by
  have hj : j < l.length := by
    rcases Nat.lt_or_ge j l.length with g | g
    · exact g
    · rw [List.getElem?_eq_none g] at h; cases h
  unfold idxN
  rw [X.take_snoc h, List.findIdx?_append]
  cases hf : (l.take j).findIdx? (fun a => bs a.n == x) with
  | some i => simp
  | none =>
    by_cases e : bs a.n = x
    · simp [List.findIdx?_cons, e, List.length_take]
      omega
    · have e2 : (bs a.n == x) = false := by simpa using e
      simp [List.findIdx?_cons, e2, e]
theorem idxN_mem (l : List AF) (x : List UInt8) : (idxN l x).isSome = true ↔ x ∈ l.map (fun a => bs a.n) := by
  unfold idxN
  rw [List.findIdx?_isSome, List.any_eq_true, List.mem_map]
  constructor
  · rintro ⟨a, h1, h2⟩; exact ⟨a, h1, by simpa using h2⟩
  · rintro ⟨a, h1, h2⟩; exact ⟨a, h1, by simpa using h2⟩
/-- The part of what is wrong that is left. -/
def RestN (l : List AF) (j r : Nat) : Prop := fltN (l.drop j) ((l.take j).map (fun a => bs a.n)) = r
theorem RestN.next {l : List AF} {j r : Nat} {a : AF} (h : RestN l j r) (ha : l[j]? = some a) : (nmOk a.n = false ∧ r = 4) ∨ (nmOk a.n = true ∧ ((∃ i, idxN (l.take j) (bs a.n) = some i) ∧ r = 5 ∨ (idxN (l.take j) (bs a.n) = none ∧ RestN l (j + 1) r))) := by
  unfold RestN at h ⊢
  have hd : l.drop j = a :: l.drop (j + 1) := by
    have hj : j < l.length := by
      rcases Nat.lt_or_ge j l.length with g | g
      · exact g
      · rw [List.getElem?_eq_none g] at ha; cases ha
    rw [List.drop_eq_getElem_cons hj]
    rw [List.getElem?_eq_getElem hj] at ha
    rw [Option.some.inj ha]
  rw [hd, fltN] at h
  cases hn : nmOk a.n with
  | false => rw [hn] at h; left; exact ⟨rfl, by simpa using h.symm⟩
  | true =>
    rw [hn, if_pos rfl] at h
    right
    refine ⟨rfl, ?_⟩
    cases hi : idxN (l.take j) (bs a.n) with
    | some i =>
      left
      have : bs a.n ∈ (l.take j).map (fun a => bs a.n) := (idxN_mem _ _).1 (by rw [hi]; rfl)
      rw [if_pos this] at h
      exact ⟨⟨i, rfl⟩, h.symm⟩
    | none =>
      right
      have : ¬ bs a.n ∈ (l.take j).map (fun a => bs a.n) := fun hm => by
        have := (idxN_mem _ _).2 hm
        rw [hi] at this; cases this
      rw [if_neg this] at h
      refine ⟨rfl, ?_⟩
      rw [X.take_snoc ha, List.map_append]
      exact h
set_option maxRecDepth 100000 in
set_option maxHeartbeats 8000000 in
theorem fault_any (ao : Option Addr) (cap : Nat) (l : List AF) (w : World) (hT : Tabs w) (h : IsAF w w.heap.size ao l) (hl : l.length ≤ cap) (hc : cap ≤ maxLen) :
    Calls Tryz.prog 11 #[.slice ao l.length cap] w fun e w' => e = .returned (errV (fltF l)) ∧ Below w.heap.size w w' := by
  have hmm : ∀ (t : TypeId) (w : World), (Instr.makeMap t none).run Tryz.prog w = .ok (.map (some w.heap.size)) (w.alloc (.map #[] 0)) := fun _ _ => rfl
  have HL := hide h
  have HT := hide hT
  have hcap : l.length ≤ 9223372036854775807 := by unfold maxLen at hc; omega
  by_cases h16 : 16 < l.length
  · have e1 : fltF l = 12 := if_pos h16
    rw [e1]
    have d1 : ((l.length : Int) > 16) := by omega
    have d2 : (16 : Int) < (l.length : Int) := by omega
    clear h hT
    go_enter Tryz.func11, Tryz.ntmps11
    go_wp2_with fail
    go_ret
    exact ⟨rfl, Below.refl _ w⟩
  · have d1 : ¬ (16 : Int) < (l.length : Int) := by omega
    generalize hR : fltF l = r
    have HR : Hid ((if l.any (fun a => decide (20000 < a.t.size)) then 12 else fltN l []) = r) := by
      rw [← hR]
      exact (if_neg h16).symm
    clear h hT hR
    go_enter Tryz.func11, Tryz.ntmps11
    go_wp2_with fail
    go_loopw [16] (fun v wr => ∃ j : Nat, v = .int .i64 j ∧ j ≤ l.length ∧ Hid ((l.take j).any (fun a => decide (20000 < a.t.size)) = false) ∧ Hid (Below w.heap.size w wr)) (fun v _ => l.length - (intOf v).toNat)
    case atStart => exact ⟨0, rfl, Nat.zero_le _, hide rfl, Below.refl _ w⟩
    case round =>
      obtain ⟨j, rfl, hj, HA, HB⟩ := hrel
      by_cases hjl : j < l.length
      · obtain ⟨a, ha⟩ : ∃ a, l[j]? = some a := ⟨l[j], List.getElem?_eq_getElem hjl⟩
        obtain ⟨b, o, e1, e2, e3, e4⟩ := (HL.out).below HB.out j a ha
        subst e1
        have hi1 : (j : Int) < (l.length : Int) := by omega
        have hbl : b < wr.heap.size := Nat.lt_of_lt_of_le e2 (HB.out).size
        by_cases hq : 20000 < a.t.size
        · have hq2 : (20000 : Int) < (a.t.size : Int) := by omega
          have HF : Hid (r = 12) := by
            rw [← HR.out]
            have : l.any (fun a => decide (20000 < a.t.size)) = true := List.any_eq_true.2 ⟨a, List.mem_of_getElem? ha, by simpa using hq⟩
            rw [this]; exact hide rfl
          have HB2 : Hid (Below w.heap.size w (wr.alloc (.cells #[.string a.n, .string a.t] 37))) := (HB.out).alloc (HB.out).size _
          clear HA HB HR
          go_wp2_with fail
          go_ret
          exact ⟨by rw [HF.out]; rfl, HB2.out⟩
        · have hq2 : ¬ (20000 : Int) < (a.t.size : Int) := by omega
          have HA2 : Hid ((l.take (j + 1)).any (fun a => decide (20000 < a.t.size)) = false) := by
            rw [X.take_snoc ha, List.any_append, HA.out]
            exact hide (by simpa using hq)
          have HB2 : Hid (Below w.heap.size w (wr.alloc (.cells #[.string a.n, .string a.t] 37))) := (HB.out).alloc (HB.out).size _
          clear HA HB
          go_wp2_with fail
          exact ⟨⟨j + 1, by simp, by omega, HA2, HB2⟩, by simp [intOf]; omega⟩
      · obtain rfl : j = l.length := by omega
        have hd1 : ¬ (l.length : Int) < (l.length : Int) := by omega
        have HR2 : Hid (RestN l 0 r) := by
          have h1 := HA.out
          rw [List.take_length] at h1
          have h2 := HR.out
          rw [h1] at h2
          exact h2
        clear HA HR
        go_wp2_with fail
        have HI0 : Hid (Below w.heap.size w (wr.alloc (.map #[] 0)) ∧ Mp (wr.alloc (.map #[] 0)) wr.heap.size 0 (idxN (l.take 0))) := ⟨(HB.out).alloc (HB.out).size _, (Mp.made wr).congr (fun x => by rw [List.take_zero]; rfl)⟩
        have hwm : w.heap.size ≤ wr.heap.size := (HB.out).size
        clear HB hmm
        generalize wr.heap.size = m at *
        generalize wr.alloc (.map #[] 0) = W0 at *
        go_loopw [29] (fun v wr2 => ∃ j : Nat, v = .int .i64 j ∧ j ≤ l.length ∧ Hid (RestN l j r) ∧ Hid (Below w.heap.size w wr2 ∧ Mp wr2 m j (idxN (l.take j)))) (fun v _ => l.length - (intOf v).toNat)
        case atStart => exact ⟨0, rfl, Nat.zero_le _, HR2, HI0⟩
        case round =>
          obtain ⟨j, rfl, hj, HR3, HI⟩ := hrel
          clear HI0 HR2
          by_cases hjl : j < l.length
          · obtain ⟨a, ha⟩ : ∃ a, l[j]? = some a := ⟨l[j], List.getElem?_eq_getElem hjl⟩
            obtain ⟨b, o, e1, e2, e3, e4⟩ := (HL.out).below (HI.out).1 j a ha
            subst e1
            have hi1 : (j : Int) < (l.length : Int) := by omega
            have hcs := (HR3.out).next ha
            have kF : Below w.heap.size w (wr.alloc (.cells #[.string a.n, .string a.t] 37)) := (HI.out).1.alloc (HI.out).1.size _
            have hTw : Tabs (wr.alloc (.cells #[.string a.n, .string a.t] 37)) := (HT.out).below kF
            have hF0 := heap_alloc_new wr (.cells #[.string a.n, .string a.t] 37)
            have hwr1 : (wr.alloc (.cells #[.string a.n, .string a.t] 37)).heap.size = wr.heap.size + 1 := by simp
            have n0 := cell_of_row _ _ 0 _ _ _ hF0
            have hmp1 := (HI.out).2.below ((Below.refl _ wr).alloc (Nat.le_refl _) (.cells #[.string a.n, .string a.t] 37))
            have HKF := hide kF
            have HM1 := hide hmp1
            have HF0 := hide hF0
            clear kF hmp1 HI hF0
            rcases hcs with ⟨hn, hr⟩ | ⟨hn, hcs⟩
            · have HC := hide (name_is a.n _ hTw false hn)
              have HRr := hide hr
              clear hTw hn hr HM1
              go_wp2_with fail
              refine (HC.out).mono ?_
              rintro e w3 ⟨rfl, B3⟩
              have HF : Hid (Below w.heap.size w w3) := (HKF.out).trans (B3.mono (HKF.out).size)
              clear B3 HC n0
              go_wp2_with fail
              go_ret
              exact ⟨by rw [HRr.out]; rfl, HF.out⟩
            · have HC := hide (name_is a.n _ hTw true hn)
              have hlen : (bs a.n).length ≤ maxLen := by
                unfold nmOk at hn
                rw [bs_len]
                unfold maxLen
                have : a.n.size ≤ 40 := by simp at hn; exact hn.1
                omega
              have HCS := hide hcs
              clear hTw hn hcs
              go_wp2_with fail
              refine (HC.out).mono ?_
              rintro e w3 ⟨rfl, B3⟩
              have hm3 := (HM1.out).below B3
              have hrun := hm3.run_ok hlen
              rw [ba_bs] at hrun
              have n03 := kcb B3 (by omega) n0
              have HK3 : Hid (Below w.heap.size w w3) := (HKF.out).trans (B3.mono (HKF.out).size)
              have HM3 := hide hm3
              clear HC B3 hm3 HM1 HKF HF0 n0
              rcases HCS.out with ⟨⟨i, hi⟩, hr⟩ | ⟨hi, hr⟩
              · rw [hi] at hrun
                have hrun' : (Instr.lookup 59 (.map (some m)) (.string a.n) true).run Tryz.prog w3 = .ok (.tuple #[.int .i64 (i : Nat), .bool true]) w3 := hrun
                have HRr := hide hr
                clear hrun hi hr HCS HM3
                go_wp2_with fail
                go_ret
                exact ⟨by rw [HRr.out]; rfl, (HK3.out)⟩
              · rw [hi] at hrun
                have hrun' : (Instr.lookup 59 (.map (some m)) (.string a.n) true).run Tryz.prog w3 = .ok (.tuple #[.int .i64 0, .bool false]) w3 := hrun
                have HRr := hide hr
                have HI3 := hide hi
                have hjm : j < maxLen := by unfold maxLen; omega
                obtain ⟨w4, hp1, hp2, hp3⟩ := (HM3.out).run_put hjm hlen (i := j) (by omega)
                rw [ba_bs] at hp1
                have HI4 : Hid (Below w.heap.size w w4 ∧ Mp w4 m (j + 1) (idxN (l.take (j + 1)))) := by
                  refine ⟨(HK3.out).trans (hp3.below (HK3.out).size (fun q e => by omega)), hp2.congr (fun x => ?_)⟩
                  rw [idxN_snoc ha]
                  unfold upd
                  by_cases e : x = bs a.n
                  · subst e
                    rw [if_pos rfl, HI3.out]
                    show _ = if _ then _ else _
                    rw [if_pos rfl]
                  · rw [if_neg e]
                    cases hx : idxN (l.take j) x with
                    | some i => rfl
                    | none =>
                      show _ = if _ then _ else _
                      rw [if_neg (fun e2 => e e2.symm)]
                clear hrun hi hr HCS HM3 hp2 hp3 HK3
                go_wp2_with fail
                exact ⟨⟨j + 1, by simp, by omega, HRr, HI4⟩, by simp [intOf]; omega⟩
          · obtain rfl : j = l.length := by omega
            have hd2 : ¬ (l.length : Int) < (l.length : Int) := by omega
            have HF : Hid (r = 0 ∧ Below w.heap.size w wr) := by
              have h1 := HR3.out
              unfold RestN at h1
              rw [List.drop_length, fltN] at h1
              exact ⟨h1.symm, (HI.out).1⟩
            clear HI HR3
            go_wp2_with fail
            go_ret
            exact ⟨by rw [(HF.out).1]; rfl, (HF.out).2⟩
end Go.Proofs.YtgjbafamiggafaaGreatDoor
